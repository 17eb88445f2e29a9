import Derived.Test.YtliaegnhnnnojaaBy
import Derived.Test.YtliaegnhnnnojaaText
import Derived.Laws.CopyOwn
import Derived.Laws.Externs
import Derived.Lib.Overlaps
import Derived.KernelRfl
set_option linter.unusedSimpArgs false
set_option linter.unusedVariables false
namespace Go.Proofs.Ytliaegnhnnnojaa
open Go.RowKit

/-! What slices.Insert stands on: copies within a row, an append of noughts, what lies apart. -/
theorem spl1 {α : Type} (Z F T : List α) (i : Nat) (h : i ≤ Z.length) : (splice (splice Z i F) (i + F.length) T).take (i + F.length + T.length) = Z.take i ++ (F ++ T) := by
  have e1 : (splice Z i F).take (i + F.length) = Z.take i ++ F := by
    unfold splice
    rw [← List.append_assoc]
    apply List.take_left'
    simp; omega
  unfold splice at *
  rw [e1, ← List.append_assoc (Z.take i ++ F)]
  rw [List.take_left' (by simp; omega), List.append_assoc]
theorem spl2 {α : Type} (C F T : List α) (i : Nat) (h : i + F.length ≤ C.length) : (splice (splice C (i + F.length) T) i F).take (i + F.length + T.length) = C.take i ++ (F ++ T) := by
  have e1 : (splice C (i + F.length) T).take i = C.take i := by
    unfold splice
    rw [List.take_append_of_le_length (by simp; omega), List.take_take]
    congr 1
    omega
  have e2 : (splice C (i + F.length) T).drop (i + F.length) = T ++ C.drop (i + F.length + T.length) := by
    unfold splice
    apply List.drop_left'
    simp; omega
  conv => lhs; rw [splice]
  rw [e1, e2, ← List.append_assoc F, ← List.append_assoc (C.take i), ]
  rw [List.take_left' (by simp; omega)]
theorem spl_len {α : Type} (C F : List α) (i : Nat) (h : i + F.length ≤ C.length) : (splice C i F).length = C.length := length_splice C i F h
section
variable {P : Program}
theorem step_copy_row {ops : Array Oper} {o : Oper} {a : Act} {w : World} {K : Act → World → Prop} {Q : Exit → Act → World → Prop} {E : Prop} (hgd : o.guard = none) (d s : Operand) (dT sT : TypeId)
    (ho : o.op = .call { callee := .builtin .copy, args := #[d, s], argTypes := #[dT, sT] }) (elem : TypeId) (hu : P.underlying dT = some (.slice elem)) (hsz : (P.info? elem).map (·.size) = some 1)
    (g off dLen dCap : Nat) (ad : Addr) (sLen sCap : Nat) (hd : a.eval d = .slice (some ⟨g, off, none⟩) dLen dCap) (hs : a.eval s = .slice (some ad) sLen sCap)
    (cur : Array Value) (t : TypeId) (hg : w.heap[g]? = some (.cells cur t (0, 0))) (cs : List Value) (hn : cs.length = Nat.min sLen dLen)
    (hsrc : ∀ j v, cs[j]? = some v → w.cell? (ad.add j) = some v) (hfit : off + cs.length ≤ cur.size) (h1 : ∀ v ∈ cs, v.oneCell' = true)
    (h : K (a.put o.dst (goInt cs.length)) (w.setRow g (splice cur.toList off cs).toArray)) :
    if Region.wanted o (yielded ops a.tmps) = true then Oper.wp P o a w K Q else E := by
  rw [if_pos (by simp [Region.wanted, hgd])]
  have hrun := run_copy_row (P := P) w dT sT o.type elem g off dLen dCap ad sLen sCap cur t cs hu hsz hg hn hsrc hfit h1
  rw [List.append_assoc] at hrun
  unfold Oper.wp
  simp only [execOp, ho, resolve, invoke, builtin, Sem.run_bind, Sem.run_pure, Result.andThen_ok, List.map_toArray, List.map_cons, List.map_nil, hd, hs, hrun]
  exact h
theorem wpList_copy_row {ops : Array Oper} {rest : List Oper} {o : Oper} {a : Act} {w : World} {Q : Exit → Act → World → Prop} (hgd : o.guard = none) (d s : Operand) (dT sT : TypeId)
    (ho : o.op = .call { callee := .builtin .copy, args := #[d, s], argTypes := #[dT, sT] }) (elem : TypeId) (hu : P.underlying dT = some (.slice elem)) (hsz : (P.info? elem).map (·.size) = some 1)
    (g off dLen dCap : Nat) (ad : Addr) (sLen sCap : Nat) (hd : a.eval d = .slice (some ⟨g, off, none⟩) dLen dCap) (hs : a.eval s = .slice (some ad) sLen sCap)
    (cur : Array Value) (t : TypeId) (hg : w.heap[g]? = some (.cells cur t (0, 0))) (cs : List Value) (hn : cs.length = Nat.min sLen dLen)
    (hsrc : ∀ j v, cs[j]? = some v → w.cell? (ad.add j) = some v) (hfit : off + cs.length ≤ cur.size) (h1 : ∀ v ∈ cs, v.oneCell' = true)
    (h : wpList P ops Q rest (a.put o.dst (goInt cs.length)) (w.setRow g (splice cur.toList off cs).toArray)) : wpList P ops Q (o :: rest) a w :=
  wpList_copy_own hgd d s dT sT ho elem hu hsz g off dLen dCap ad sLen sCap hd hs cur t hg cs hn hsrc hfit h1 h
/-- append(s, make([]T, k)...) where there is no room. -/
theorem wpList_append_zeros {ops : Array Oper} {rest : List Oper} {o : Oper} {a : Act} {w : World} {Q : Exit → Act → World → Prop} (hgd : o.guard = none) (s x : Operand) (t tx : TypeId)
    (ho : o.op = .call { callee := .builtin .append, args := #[s, x], argTypes := #[t, tx] })
    (e : TypeId) (i : TypeInfo) (z : Value) (ht : P.underlying t = some (.slice e)) (hx : P.underlying tx = some (.int .i64)) (hi : P.info? e = some i) (hz : i.zero = some z) (h1 : i.size = 1) (hb1 : i.bytes = 1) (hzs : z.cells.size = 1)
    (g n cap k : Nat) (kv : Int) (hkv : kv = k) (olds : List Value) (hol : olds.length = n) (hs : a.eval s = .slice (some ⟨g, 0, none⟩) n cap) (hxv : a.eval x = .int .i64 kv) (hc : ∀ j u, olds[j]? = some u → w.cell? ((⟨g, 0, none⟩ : Addr).add j) = some u)
    (hk : 0 < k) (hg : cap < n + k) (hm : n + k ≤ 140737488355328) (N : Nat) (hN : n + k = N)
    (h : ∀ c' (Z : List Value), N ≤ c' → c' ≤ maxLen → Z.length = c' → Z.take n = olds → wpList P ops Q rest (a.put o.dst (.slice (some ⟨w.heap.size, 0, none⟩) N c')) (w.drew.alloc (.cells Z.toArray e))) : wpList P ops Q (o :: rest) a w := by
  subst hkv
  subst hN
  refine wpList_plain hgd fun K hK => ?_
  have hn : ¬ (n + k ≤ cap) := by omega
  have hf := growslice_fits (bytes := 1) hg (by omega)
  have h48' : ¬ (281474976710656 < Builtin.nextslicecap (n + k) cap) := by rw [Nat.mul_one] at hf; omega
  have hold : (loadCells ⟨g, 0, none⟩ n).run P w.drew = .ok olds.toArray w.drew := by rw [← hol]; exact run_loadCells_list (P := P) w.drew ⟨g, 0, none⟩ olds (by simpa using hc)
  have hw : IntKind.i64.wrap (k : Int) = k := by rw [IntKind.wrap_i64]; omega
  have ha : ∀ w' : World, (asInt (.int .i64 (k : Int))).run P w' = .ok (k : Int) w' := fun _ => rfl
  have hk0 : ¬ k = 0 := by omega
  have hneg : ¬ (k : Int) < 0 := by omega
  have hbig : ¬ (281474976710656 : Int) < (k : Int) := by omega
  have hmx : ¬ (9223372036854775807 : Int) < (n : Int) + (k : Int) := by omega
  have hge := grownCap_ge w (n + k) cap e
  have hcm := grownCap_le_maxLen w (n + k) cap e (by unfold maxLen; omega)
  have hrun : (Builtin.append_ #[t, tx] o.type #[.slice (some ⟨g, 0, none⟩) n cap, .int .i64 (k : Int)]).run P w = .ok (.slice (some ⟨w.heap.size, 0, none⟩) (n + k) (grownCap w (n + k) cap e)) (w.drew.alloc (.cells (olds ++ (Builtin.zeroCells z.cells k ++ Builtin.zeroCells z.cells (grownCap w (n + k) cap e - (n + k))).toList).toArray e)) := by
    simp [Builtin.append_, run_underlying ht, run_underlying hx, sizeOf, typeInfo, zeroValue, hi, hz, h1, hb1, ha, hw, hk0, hn, hneg, hbig, hmx, hk, h48', Question.forced, newRow, grownCap, Builtin.firstCells, hold]
    congr 2
    apply Array.ext'
    simp
  unfold Oper.wp execOp
  simp only [ho, resolve, invoke, builtin, Sem.run_bind, Sem.run_pure, Result.andThen_ok, List.map_toArray, List.map_cons, List.map_nil, hs, hxv, hrun]
  refine hK _ _ (h _ _ hge hcm ?_ ?_)
  · simp [size_zeroCells, hzs, hol]; omega
  · rw [← hol]; exact List.take_left
end
theorem size5 (w : World) : (sizeOf 5).run Try.prog w = .ok 1 w := by
  obtain ⟨i0, hi, hz0, hz1, hz2⟩ := info_of info5
  simp [sizeOf, typeInfo, hi, hz1]
theorem msize5 : (Try.prog.info? 5).map (·.size) = some 1 := by
  obtain ⟨i0, hi, hz0, hz1, hz2⟩ := info_of info5
  rw [hi]; simp [hz1]
/-- Two rows of one's own that are not one lie apart. -/
theorem run_apart (w : World) (g h o p la ca lb cb : Nat) (cg ch : Array Value) (hne : g ≠ h) (hg : w.heap[g]? = some (.cells cg 5 (0, 0))) (hh : w.heap[h]? = some (.cells ch 5 (0, 0))) (h0 : ch.size ≠ 0) :
    (callFunc 62 #[.slice (some ⟨g, o, none⟩) la ca, .slice (some ⟨h, p, none⟩) lb cb]).run Try.prog w = .ok (.value (.bool false)) w := by
  have fg : ∀ k, w.frozen? ⟨g, k, none⟩ = false := fun k => by simp [World.frozen?, hg]
  rw [run_callFunc_extern Try.func62 (by kernel_rfl) (by kernel_rfl) (by kernel_rfl) (e := Extern.SlicesOverlaps.overlaps #[45, 45] #[4]) (by kernel_rfl),
    Lib.run_overlaps_apart w 45 4 5 Try.underlying45 1 size5 ⟨g, o, none⟩ ⟨h, p, none⟩ la ca lb cb hne 5 5 cg.size ch.size (by simp [World.shape?, hg]) (by simp [World.shape?, hh]) h0 (fg _) (fg _)]
  rfl
end Go.Proofs.Ytliaegnhnnnojaa

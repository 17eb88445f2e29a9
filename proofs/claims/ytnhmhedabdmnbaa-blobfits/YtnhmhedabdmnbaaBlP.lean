import Derived.Test.YtnhmhedabdmnbaaBlH
import Derived.Test.YtnhmhedabdmnbaaRw1
set_option linter.unusedSimpArgs false
set_option linter.unusedVariables false
namespace Go.Proofs.Ytnhmhedabdmnbaa
open Go.RowKit Go.Shelf
attribute [local go_sem] Oper.semAt_some

/-! blob.pairs, as a sequence. -/
/-- What a round keeps: all cells but those of one block. -/
def KpC (o : Nat) (A B : World) : Prop := ∀ p v, p.block ≠ o → A.cell? p = some v → B.cell? p = some v
theorem KpC.trans {o : Nat} (A B C : World) (h : KpC o A B) (k : KpC o B C) : KpC o A C := fun p v h1 h2 => k p v h1 (h p v h1 h2)
theorem kpc_put {o : Nat} (W : World) (l : Nat) (x x' : Obj) (h : W.heap[l]? = some x) (hc : x.isCells = false) : KpC o W (W.putObj l x') := by
  intro p v _ hp
  by_cases e : p.block = l
  · subst e
    unfold World.cell? at hp
    rw [h] at hp
    cases x <;> simp_all [Obj.isCells]
  · rw [World.cell?_of_block (w := W) (World.putObj_heap_other e)]
    exact hp
/-- Hashes and blobs, in blocks that a round does not write. -/
def PrI (g : Nat → Nat) (f : Nat → ByteArray) (n : Nat) (aH aB : Option Addr) (cH Bh o : Nat) (w : World) : Prop :=
  w.cell? ⟨Bh, 0, none⟩ = some (.slice aH n cH) ∧ (∀ i, i < n → ∃ b off, aH = some ⟨b, off, none⟩ ∧ b ≠ o ∧ w.cell? ⟨b, off + i, none⟩ = some (.int .u64 (g i : Int))) ∧
  (∀ i, i < n → ∃ b off, aB = some ⟨b, off, none⟩ ∧ b ≠ o ∧ w.cell? ⟨b, off + i, none⟩ = some (.string (f i)))
theorem PrI.keep {g : Nat → Nat} {f : Nat → ByteArray} {n : Nat} {aH aB : Option Addr} {cH Bh o : Nat} {w w' : World} (h : PrI g f n aH aB cH Bh o w) (hk : KpC o w w') (hB : Bh ≠ o) : PrI g f n aH aB cH Bh o w' := by
  obtain ⟨h1, h2, h3⟩ := h
  refine ⟨hk _ _ hB h1, fun i hi => ?_, fun i hi => ?_⟩
  · obtain ⟨b, off, ha, hb, hc⟩ := h2 i hi
    exact ⟨b, off, ha, hb, hk _ _ hb hc⟩
  · obtain ⟨b, off, ha, hb, hc⟩ := h3 i hi
    exact ⟨b, off, ha, hb, hk _ _ hb hc⟩
theorem PrI.below {g : Nat → Nat} {f : Nat → ByteArray} {n : Nat} {aH aB : Option Addr} {cH Bh o : Nat} {w w' : World} (h : PrI g f n aH aB cH Bh o w) (hb : Below w.heap.size w w') : PrI g f n aH aB cH Bh o w' := by
  obtain ⟨h1, h2, h3⟩ := h
  refine ⟨(hb.cell (cell_lt' h1)).trans h1, fun i hi => ?_, fun i hi => ?_⟩
  · obtain ⟨b, off, ha, hn, hc⟩ := h2 i hi
    exact ⟨b, off, ha, hn, (hb.cell (cell_lt' hc)).trans hc⟩
  · obtain ⟨b, off, ha, hn, hc⟩ := h3 i hi
    exact ⟨b, off, ha, hn, (hb.cell (cell_lt' hc)).trans hc⟩
def prs (g : Nat → Nat) (f : Nat → ByteArray) (k : Nat) : List (Nat × ByteArray) := (List.range k).map fun j => (g j, f j)
theorem prs_succ (g : Nat → Nat) (f : Nat → ByteArray) (k : Nat) : prs g f (k + 1) = prs g f k ++ [(g k, f k)] := by simp [prs, List.range_succ]
def penc (x : Nat × ByteArray) : Array Value := #[.int .u64 (x.1 : Int), .string x.2]
set_option maxRecDepth 100000 in
set_option maxHeartbeats 2000000 in
theorem pairs_seq (m : Nat) (g : Nat → Nat) (f : Nat → ByteArray) (n : Nat) (aH aB : Option Addr) (cH cB Bh Bb o : Nat) (hm : 1 ≤ m) (hn : n ≤ 4611686018427387904) (w : World)
    (hP : PrI g f n aH aB cH Bh o w) (bB : w.cell? ⟨Bb, 0, none⟩ = some (.slice aB n cB)) (nA : Bh ≠ o) :
    SeqB Fence.wide m Try.prog 20 #[.pointer (some ⟨Bb, 0, none⟩), .pointer (some ⟨Bh, 0, none⟩)] penc (KpC o) (fun xs => xs = prs g f n) (fun xs => ∃ k, k < n ∧ xs = prs g f (k + 1)) w := by
  intro l J Jx W hbW hJ hJx hY h0
  have hP : Hid (PrI g f n aH aB cH Bh o W) := hP.below hbW
  have bB := (hbW.cell (cell_lt' bB)).trans bB
  have HY : Hid (∀ pre x A, J pre A → YieldAt Fence.wide (m - 1) Try.prog l (penc x) A fun e B => (e = .returned (.bool true) ∧ J (pre ++ [x]) B ∧ KpC o A B) ∨ (e = .returned (.bool false) ∧ Jx (pre ++ [x]) B)) := hY
  clear hY hJ hJx hbW
  show CallsIn Fence.wide m Try.prog 20 #[.func (.yield l) #[] #[], .pointer (some ⟨Bb, 0, none⟩), .pointer (some ⟨Bh, 0, none⟩)] W _
  refine callsIn_of_wp Try.func20 rfl trivial ?_ rfl
  simp only [Try.ntmps20, List.size_toArray, List.length_cons, List.length_nil, Nat.reduceAdd, Nat.reduceSub, Array.replicate_succ, Array.replicate_zero, List.push_toArray, List.append_toArray, List.nil_append, List.cons_append]
  gi_wp2
  gi_loopw [8] (fun i wr => ∃ j : Nat, j ≤ n ∧ i = .int .i64 (j : Int) ∧ PrI g f n aH aB cH Bh o wr ∧ J (prs g f j) wr) (fun i _ => n - (intOf i).toNat)
  case atStart => exact ⟨0, Nat.zero_le _, rfl, hP.out, h0⟩
  case round =>
    clear bB hP h0
    obtain ⟨j, hj, rfl, hP, hJk⟩ := hrel
    by_cases hlt : j < n
    · have hlt' : (j : Int) < (n : Int) := by omega
      have HBs : Hid (prs g f (j + 1) = prs g f j ++ [(g j, f j)]) := prs_succ g f j
      have HA : Hid (PrI g f n aH aB cH Bh o wr) := hP
      obtain ⟨h1, h2, h3⟩ := hP
      obtain ⟨b, off, rfl, _, hcH⟩ := h2 j hlt
      obtain ⟨b', off', rfl, _, hcB⟩ := h3 j hlt
      clear h2 h3
      obtain ⟨fn, tmps, assign, body, hy, hR⟩ := HY.out _ (g j, f j) wr hJk
      simp only [penc] at hy
      gi_wp2
      refine hR.mono ?_
      rintro e W3 (⟨rfl, hJ3, hk3⟩ | ⟨rfl, hJx3⟩)
      · gi_wp2
        go_roundw
        case rel => exact ⟨j + 1, by omega, by go_num, HA.out.keep hk3 nA, by rw [HBs.out]; exact hJ3⟩
        case measure => simp [intOf]; omega
      · gi_wp2
        refine bodyPost_ret (results_none rfl _ _ _) rfl ?_
        exact ⟨⟨_, rfl⟩, .inr ⟨_, ⟨j, hlt, HBs.out.symm⟩, hJx3⟩⟩
    · have hlt' : ¬ (j : Int) < (n : Int) := by omega
      obtain rfl : j = n := by omega
      gi_wp2
      go_end0
      refine ⟨⟨_, rfl⟩, .inl ?_⟩
      first | exact hJk | exact ⟨_, rfl, hJk⟩
theorem pairs_any (aH aB : Option Addr) (n cH m cB : Nat) (w : World) : Calls Try.prog 18 #[.slice aH n cH, .slice aB m cB] w fun e w' => e = .returned (.func (.func 20) #[] #[.pointer (some ⟨w.heap.size + 1, 0, none⟩), .pointer (some ⟨w.heap.size, 0, none⟩)]) ∧ w' = (w.alloc (.cells #[.slice aH n cH] 23)).alloc (.cells #[.slice aB m cB] 24) := by
  go_enter Try.func18, Try.ntmps18
  go_wp2
  go_ret
  exact ⟨by simp, rfl⟩
end Go.Proofs.Ytnhmhedabdmnbaa

import Derived.Test.YtgolpadmcalimaaSubM
import Derived.Deep.RegionWith
import Derived.Deep.DeepCutAuto
set_option linter.unusedSimpArgs false
set_option linter.unusedVariables false
namespace Go.Proofs.Ytgolpadmcalimaa
open Go.RowKit

/-! Slices of numbers, as the walks read them. -/
def four (n : Nat) : List Value := [.int .u64 (lb n 0), .int .u64 (lb n 1), .int .u64 (lb n 2), .int .u64 (lb n 3)]
def flat (ns : List Nat) : List Value := ns.flatMap four
theorem flat_length (ns : List Nat) : (flat ns).length = ns.length * 4 := by
  induction ns with
  | nil => rfl
  | cons n ns ih => simp only [flat, List.flatMap_cons, List.length_append, List.length_cons] at *; rw [ih]; simp [four]; omega
theorem flat_append (a b : List Nat) : flat (a ++ b) = flat a ++ flat b := by simp [flat]
theorem flat_at (ns : List Nat) (i : Nat) (h : i < ns.length) : (flat ns)[4 * i]? = some (.int .u64 (lb ns[i] 0)) ∧ (flat ns)[4 * i + 1]? = some (.int .u64 (lb ns[i] 1)) ∧ (flat ns)[4 * i + 2]? = some (.int .u64 (lb ns[i] 2)) ∧ (flat ns)[4 * i + 3]? = some (.int .u64 (lb ns[i] 3)) := by
  induction ns generalizing i with
  | nil => simp at h
  | cons n ns ih =>
    have e : flat (n :: ns) = four n ++ flat ns := by simp [flat]
    rw [e]
    cases i with
    | zero => simp [four]
    | succ j =>
      have := ih j (by simpa using h)
      have l4 : (four n).length = 4 := rfl
      rw [List.getElem?_append_right (by rw [l4]; omega), List.getElem?_append_right (by rw [l4]; omega), List.getElem?_append_right (by rw [l4]; omega), List.getElem?_append_right (by rw [l4]; omega), l4]
      simp only [List.getElem_cons_succ]
      have e0 : 4 * (j + 1) - 4 = 4 * j := by omega
      have e1 : 4 * (j + 1) + 1 - 4 = 4 * j + 1 := by omega
      have e2 : 4 * (j + 1) + 2 - 4 = 4 * j + 2 := by omega
      have e3 : 4 * (j + 1) + 3 - 4 = 4 * j + 3 := by omega
      rw [e0, e1, e2, e3]
      exact this
/-- A slice of these numbers, in this world: nil, or from an address on, four cells a number. -/
def Sl (w : World) (v : Value) (ns : List Nat) : Prop :=
  (∀ n ∈ ns, n < M256) ∧ ns.length ≤ maxLen ∧
  ((ns = [] ∧ ∃ ad cap, v = .slice ad 0 cap) ∨ ∃ b off cap, v = .slice (some ⟨b, off, none⟩) ns.length cap ∧ ∀ j u, (flat ns)[j]? = some u → w.cell? ⟨b, off + j, none⟩ = some u)
theorem cell_lt {w : World} {a : Addr} {v : Value} (h : w.cell? a = some v) : a.block < w.heap.size := by
  unfold World.cell? at h
  split at h
  · next h' => exact (Array.getElem?_eq_some_iff.1 h').1
  · simp at h
theorem Sl.below {w w' : World} {v : Value} {ns : List Nat} (h : Sl w v ns) (hb : Below w.heap.size w w') : Sl w' v ns := by
  obtain ⟨h1, h2, h3⟩ := h
  refine ⟨h1, h2, ?_⟩
  rcases h3 with h3 | ⟨b, off, cap, hv, hc⟩
  · exact .inl h3
  · refine .inr ⟨b, off, cap, hv, fun j u hj => ?_⟩
    have := hc j u hj
    rw [hb.cell (p := ⟨b, off + j, none⟩) (cell_lt this)]
    exact this
theorem Sl.of_owns {w : World} {base : Nat} {v : Value} {ns : List Nat} (hn : ∀ n ∈ ns, n < M256) (hl : ns.length ≤ maxLen) (h : w.ownsRow base 25 4 v ns.length (flat ns)) : Sl w v ns := by
  refine ⟨hn, hl, ?_⟩
  obtain ⟨h1, h2⟩ := h
  rcases h2 with ⟨h2, h3⟩ | ⟨g, cap, cur, hv, hg, hh, h4, h5, h6, h7⟩
  · left; exact ⟨List.length_eq_zero_iff.1 h3, none, 0, h2⟩
  · right
    refine ⟨g, 0, cap, hv, fun j u hj => ?_⟩
    rw [← h7, List.getElem?_take] at hj
    split at hj
    · simp only [World.cell?, hh, Nat.zero_add]
      simpa using hj
    · simp at hj
/-- Where the i-th number of such a slice lies. -/
theorem Sl.at {w : World} {v : Value} {ns : List Nat} (h : Sl w v ns) : ∃ ad cap, v = .slice ad ns.length cap ∧ ∀ i (hi : i < ns.length), ∃ b off, ad = some ⟨b, off, none⟩ ∧ w.cell? ⟨b, off + i * 4, none⟩ = some (.int .u64 (lb ns[i] 0)) ∧ w.cell? ⟨b, off + i * 4 + 1, none⟩ = some (.int .u64 (lb ns[i] 1)) ∧ w.cell? ⟨b, off + i * 4 + 2, none⟩ = some (.int .u64 (lb ns[i] 2)) ∧ w.cell? ⟨b, off + i * 4 + 3, none⟩ = some (.int .u64 (lb ns[i] 3)) := by
  obtain ⟨h1, h2, h3⟩ := h
  rcases h3 with ⟨hn, ad, cap, hv⟩ | ⟨b, off, cap, hv, hc⟩
  · subst hn; exact ⟨ad, cap, hv, fun i hi => by simp at hi⟩
  · refine ⟨_, cap, hv, fun i hi => ⟨b, off, rfl, ?_⟩⟩
    obtain ⟨f0, f1, f2, f3⟩ := flat_at ns i hi
    rw [Nat.mul_comm i 4]
    exact ⟨hc _ _ f0, by rw [Nat.add_assoc]; exact hc _ _ f1, by rw [Nat.add_assoc]; exact hc _ _ f2, by rw [Nat.add_assoc]; exact hc _ _ f3⟩
def ends : List Nat := [0, 1, 2, 18446744073709551615, 18446744073709551616, 6277101735386680763835789423207666416102355444464034512896, 57896044618658097711785492504343953926634992332820282019728792003956564819968, 115792089237316195423570985008687907853269984665640564039457584007913129639935]
def topE : List Value := [.int .u64 0, .int .u64 0, .int .u64 0, .int .u64 0, .int .u64 1, .int .u64 0, .int .u64 0, .int .u64 0, .int .u64 2, .int .u64 0, .int .u64 0, .int .u64 0, .int .u64 18446744073709551615, .int .u64 0, .int .u64 0, .int .u64 0, .int .u64 0, .int .u64 1, .int .u64 0, .int .u64 0, .int .u64 0, .int .u64 0, .int .u64 0, .int .u64 1, .int .u64 0, .int .u64 0, .int .u64 0, .int .u64 9223372036854775808, .int .u64 18446744073709551615, .int .u64 18446744073709551615, .int .u64 18446744073709551615, .int .u64 18446744073709551615]
theorem flat_ends : flat ends = topE := by
  simp [flat, ends, four, lb, topE]
theorem ends_lt : ∀ n ∈ ends, n < M256 := by
  simp [ends, M256]
theorem most_any (w : World) : Calls Try.prog 37 #[] w fun e w' => e = .returned (.agg (A4 18446744073709551615 18446744073709551615 18446744073709551615 18446744073709551615)) ∧ w' = w.alloc (.cells (A4 18446744073709551615 18446744073709551615 18446744073709551615 18446744073709551615) 25) := by
  go_enter Try.func37, Try.ntmps37
  go_wp2
  refine bodyPost_ret (v := .agg (A4 18446744073709551615 18446744073709551615 18446744073709551615 18446744073709551615)) ?_ rfl ⟨rfl, rfl⟩
  simp [results, Try.results37, go_sem]
theorem owns_new {W : World} {base g : Nat} (hb : base ≤ W.heap.size) (hg : g = W.heap.size) : (W.alloc (.cells topE.toArray 25)).drew.ownsRow base 25 4 (.slice (some ⟨g, 0, none⟩) 8 8) ends.length (flat ends) := by
  subst hg
  refine ⟨flat_length _, .inr ⟨_, _, topE.toArray, rfl, hb, ?_, by decide, by decide, rfl, ?_⟩⟩
  · exact Bk.new W topE.toArray 25
  · rw [flat_ends]; rfl
theorem info26 : (Try.prog.info? 25).map (fun i => (i.zero, i.size, i.bytes)) = some (some (.agg (A4 0 0 0 0)), 4, 32) := by kernel_rfl
theorem info_of {P : Program} {t : TypeId} {z : Value} {s b : Nat} (h : (P.info? t).map (fun i => (i.zero, i.size, i.bytes)) = some (some z, s, b)) : ∃ i, P.info? t = some i ∧ i.zero = some z ∧ i.size = s ∧ i.bytes = b := by
  cases hp : P.info? t with
  | none => rw [hp] at h; simp at h
  | some i => rw [hp] at h; simp at h; exact ⟨i, rfl, h⟩
theorem take_snocN (ns : List Nat) (k : Nat) (h : k < ns.length) : flat (ends ++ ns.take (k + 1)) = flat (ends ++ ns.take k) ++ four ns[k] := by
  rw [List.take_succ_eq_append_getElem h, ← List.append_assoc, flat_append]
  simp [flat]
theorem len_k (ns : List Nat) (k : Nat) (h : k ≤ ns.length) : (ends ++ ns.take k).length = 8 + k := by
  simp [ends]; omega
theorem four_new (w : World) (n : Nat) : ∀ j u, (four n)[j]? = some u → (w.alloc (.cells (A4 (lb n 0) (lb n 1) (lb n 2) (lb n 3)) 25)).cell? ((⟨w.heap.size, 0, none⟩ : Addr).add j) = some u := by
  intro j u h
  have e : (⟨w.heap.size, 0, none⟩ : Addr).add j = ⟨w.heap.size, j, none⟩ := by unfold Addr.add; split <;> simp_all
  rw [e, (Bk.new w _ _).cell]
  simpa [four] using h
theorem four_one (n : Nat) : ∀ u ∈ four n, u.oneCell' = true := by
  intro u h
  simp [four] at h
  rcases h with rfl | rfl | rfl | rfl <;> rfl
theorem owns_ge {w : World} {base : Nat} {e : TypeId} {s : Nat} {v : Value} {n : Nat} {xs : List Value} (h : w.ownsRow base e s v n xs) {j : Nat} (hj : v.ownBlock = some j) : base ≤ j := by
  rcases h.2 with ⟨rfl, _⟩ | ⟨g, cap, cur, rfl, hg, _⟩
  · simp [Value.ownBlock] at hj
  · simp [Value.ownBlock] at hj; omega
theorem all_lt {ns : List Nat} (h : ∀ n ∈ ns, n < M256) : ∀ n ∈ ends ++ ns.take 12, n < M256 := by
  intro n hn
  rcases List.mem_append.1 hn with h1 | h1
  · exact ends_lt n h1
  · exact h n (List.mem_of_mem_take h1)
set_option maxHeartbeats 1000000 in
theorem all_x (v : Value) (ns : List Nat) (w : World) (hs : Sl w v ns) :
    Calls Try.prog 25 #[v] w fun e w' => ∃ v', e = .returned v' ∧ Sl w' v' (ends ++ ns.take 12) ∧ Below w.heap.size w w' := by
  have HS : Hid (Sl w v ns) := hs
  obtain ⟨ad, cap, rfl, hat⟩ := hs.at
  have HA := hat
  clear hat hs
  go_enter Try.func25, Try.ntmps25
  go_wp2
  go_upto_region 3 with fail
  go_cut [4] (fun s wx => wx.ownsRow w.heap.size 25 4 s ends.length (flat ends) ∧ Below w.heap.size w wx)
  case first =>
    go_region_with (go_at_call 37; refine (most_any _).mono ?_; rintro e w1 ⟨rfl, rfl⟩)
    all_goals
      go_wp2_with fail
      go_meet
      refine ⟨owns_new (by simp; omega) (by simp), ?_⟩
      exact ((((Below.refl _ _).alloc (Nat.le_refl _) _).alloc (by simp) _).alloc (by simp; omega) _).drew
  case rest =>
    obtain ⟨hown, hbl0⟩ := hcut
    obtain ⟨i0, hi, hz0, hz1, hz2⟩ := info_of info26
    have hlen : ns.length ≤ maxLen := HS.out.2.1
    unfold maxLen at hlen
    go_wp2
    go_loopw [4, 5] (fun x i wr => ∃ k : Nat, k ≤ ns.length ∧ k ≤ 12 ∧ i = .int .i64 k ∧ wr.ownsRow w.heap.size 25 4 x (8 + k) (flat (ends ++ ns.take k)) ∧ Below w.heap.size w wr) (fun _ i _ => 12 - (intOf i).toNat)
    case atStart =>
      exact ⟨0, by omega, by omega, rfl, by simpa [ends] using hown, hbl0⟩
    case round =>
      clear hown hbl0
      obtain ⟨k, hk1, hk2, rfl, hown, hbl⟩ := hrel
      by_cases hlt : k < ns.length
      · by_cases hlt2 : k < 12
        · obtain ⟨b, off, rfl, hc0, hc1, hc2, hc3⟩ := HA k hlt
          have hc0 := hbl.cell (p := ⟨b, off + k * 4, none⟩) (cell_lt hc0) |>.trans hc0
          have hc1 := hbl.cell (p := ⟨b, off + k * 4 + 1, none⟩) (cell_lt hc1) |>.trans hc1
          have hc2 := hbl.cell (p := ⟨b, off + k * 4 + 2, none⟩) (cell_lt hc2) |>.trans hc2
          have hc3 := hbl.cell (p := ⟨b, off + k * 4 + 3, none⟩) (cell_lt hc3) |>.trans hc3
          have hsz := hbl.size
          clear HA
          go_wp2_with (at_builtin; refine wpList_append_own _ rfl _ _ 47 rfl w.heap.size 25 i0 (.agg (A4 0 0 0 0)) 4 32 Try.underlying47 hi hz0 hz1 hz2 rfl (by decide) _ (8 + k) _ rfl (hown.alloc _) ⟨wr.heap.size, 0, none⟩ 1 1 (four ns[k]) rfl rfl (four_new _ _) (four_one _) (by unfold maxLen; omega) (by omega) (by simp; omega) ?_; intro v1 w1 hown1 hgrow1 hnil1)
          go_roundw
          case rel =>
            refine ⟨k + 1, by omega, by omega, by go_num, by rw [take_snocN ns k hlt]; exact hown1, ?_⟩
            exact (hbl.alloc hsz _).grown hgrow1 (by simp; omega) (fun j hj => owns_ge hown hj)
          case measure => simp [intOf]; omega
        · have hb12 : decide ((k : Int) < 12) = false := by simp; omega
          go_wp2
          go_ret
          have e12 : k = 12 := by omega
          subst e12
          exact ⟨_, rfl, Sl.of_owns (base := w.heap.size) (all_lt HS.out.1) (by simp [ends, maxLen]; omega) (by rw [len_k ns 12 hk1]; exact hown), hbl⟩
      · have hbl2 : decide ((k : Int) < (ns.length : Int)) = false := by simp; omega
        go_wp2
        go_ret
        have ek : k = ns.length := by omega
        subst ek
        refine ⟨_, rfl, Sl.of_owns (base := w.heap.size) (all_lt HS.out.1) (by simp [ends, maxLen]; omega) ?_, hbl⟩
        rw [List.take_of_length_le (Nat.le_refl _)] at hown
        rw [List.take_of_length_le hk2, List.length_append]
        exact hown
/-- The two ways in which a call's answer comes into a new variable: the variable made behind the call, or ahead of it. -/
theorem meetA {wr w2 : World} {c0 c1 c2 c3 x : Value} (hsz2 : wr.heap.size ≤ w2.heap.size) (hb2 : Below wr.heap.size wr.drew w2) :
    ∃ B, Value.pointer (some ⟨w2.heap.size, 0, none⟩) = .pointer (some ⟨B, 0, none⟩) ∧ wr.heap.size ≤ B ∧ Bk (w2.alloc (.cells #[c0, c1, c2, c3] 25)) B #[c0, c1, c2, c3] 25 ∧ x = x ∧ Below wr.heap.size wr (w2.alloc (.cells #[c0, c1, c2, c3] 25)) :=
  ⟨w2.heap.size, rfl, hsz2, Bk.new _ _ _, rfl, Below.alloc ((Below.refl _ wr).drew.trans hb2) hsz2 _⟩
theorem meetB {wr w2 : World} {o : Obj} {z0 z1 z2 z3 c0 c1 c2 c3 x : Value} (hz : Bk w2 wr.heap.size #[z0, z1, z2, z3] 25) (hb2 : Below (wr.heap.size + 1) (wr.alloc o).drew w2) :
    ∃ B, Value.pointer (some ⟨wr.heap.size, 0, none⟩) = .pointer (some ⟨B, 0, none⟩) ∧ wr.heap.size ≤ B ∧ Bk ((((w2.setCell ⟨wr.heap.size, 0, none⟩ c0).setCell ⟨wr.heap.size, 1, none⟩ c1).setCell ⟨wr.heap.size, 2, none⟩ c2).setCell ⟨wr.heap.size, 3, none⟩ c3) B #[c0, c1, c2, c3] 25 ∧ x = x ∧ Below wr.heap.size wr ((((w2.setCell ⟨wr.heap.size, 0, none⟩ c0).setCell ⟨wr.heap.size, 1, none⟩ c1).setCell ⟨wr.heap.size, 2, none⟩ c2).setCell ⟨wr.heap.size, 3, none⟩ c3) := by
  refine ⟨wr.heap.size, rfl, Nat.le_refl _, ?_, rfl, ?_⟩
  · exact ((((hz.set 0 c0 rfl).set 1 c1 rfl).set 2 c2 rfl).set 3 c3 rfl)
  · exact Below.setCell (Below.setCell (Below.setCell (Below.setCell ((((Below.refl _ wr).alloc (Nat.le_refl _) o).drew).trans (hb2.mono (Nat.le_succ _))) (Nat.le_refl _) _) (Nat.le_refl _) _) (Nat.le_refl _) _) (Nat.le_refl _) _
end Go.Proofs.Ytgolpadmcalimaa

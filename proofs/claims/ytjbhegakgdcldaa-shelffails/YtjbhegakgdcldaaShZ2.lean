import Derived.Test.YtjbhegakgdcldaaShZ1
set_option linter.unusedSimpArgs false
set_option linter.unusedVariables false
set_option maxRecDepth 100000
namespace Go.Proofs.Ytjbhegakgdcldaa
open Go.RowKit Go.Shelf

/-! tarnlaw10.bag, Again. -/
def bagP (over : Int) : List ByteArray → List ByteArray → Bool
  | [], m => decide ((m.length : Int) ≤ over)
  | x :: l, m => if idxS x m < 0 then false else bagP over l (wo x m)
theorem wo_len (s : ByteArray) (l : List ByteArray) : (wo s l).length ≤ l.length := by
  unfold wo
  split
  · omega
  · simp; omega
theorem bagP_drop {over : Int} {l m : List ByteArray} {k : Nat} (hk : k < l.length) : bagP over (l.drop k) m = if idxS (l.getD k ByteArray.empty) m < 0 then false else bagP over (l.drop (k + 1)) (wo (l.getD k ByteArray.empty) m) := by
  have e : l.drop k = l.getD k ByteArray.empty :: l.drop (k + 1) := by
    rw [List.drop_eq_getElem_cons hk]
    simp [hk]
  rw [e]
  rfl
set_option maxHeartbeats 4000000 in
theorem bag10 (lv mv : Value) (l m : List ByteArray) (over : Int) (w : World) (hl : SL w lv l) (hm : SC w mv m) (hml : m.length ≤ 1000000) :
    Calls Try.prog 37 #[lv, mv, .int .i64 over] w fun r w' => r = .returned (.bool (bagP over l m)) ∧ Below w.heap.size w w' := by
  obtain ⟨l1, -, ad, cp, rfl, h1⟩ := hl
  unfold maxLen at l1
  have H1 : Hid (∀ i, i < l.length → ∃ b off, ad = some ⟨b, off, none⟩ ∧ w.cell? ⟨b, off + i, none⟩ = some (cS (l.getD i ByteArray.empty))) := h1
  have HM : Hid (SC w mv m) := hm
  clear h1 hm
  go_enter Try.func37, Try.ntmps37
  go_wp2_with fail
  go_loopw [1, 7] (fun u i wr => ∃ k : Nat, k ≤ l.length ∧ i = .int .i64 (k : Int) ∧ Hid (∃ m', SC wr u m' ∧ bagP over l m = bagP over (l.drop k) m' ∧ m'.length ≤ m.length) ∧ Below w.heap.size w wr) (fun u i _ => l.length - (intOf i).toNat)
  case atStart => exact ⟨0, by omega, rfl, ⟨m, HM.out, by rw [List.drop_zero], Nat.le_refl _⟩, Below.refl _ _⟩
  case round =>
    obtain ⟨k, hk, rfl, HI, hb⟩ := hrel
    obtain ⟨m', hs, hbag, hlen⟩ := HI.out
    have HSm : Hid (SC wr _ m') := hs
    have HI2 : Hid (∀ A, Below wr.heap.size wr A → ∀ s, Calls Try.prog 39 #[_, .string s] A fun r w' => r = .returned (.int .i64 (idxS s m')) ∧ Below A.heap.size A w') := fun A hA s => inStr10 _ m' s A (hs.below hA).1
    have HW2 : Hid (∀ A, Below wr.heap.size wr A → ∀ s, Calls Try.prog 35 #[_, .string s] A fun r w' => ∃ u, r = .returned u ∧ SC w' u (wo s m') ∧ Below A.heap.size A w') := fun A hA s => without10 _ m' s A (hs.below hA) (by omega)
    have HBg : Hid (bagP over l m = bagP over (l.drop k) m' ∧ m'.length ≤ m.length) := ⟨hbag, hlen⟩
    obtain ⟨-, am, cm, rfl, -, -⟩ := hs
    clear hbag
    by_cases hlt : k < l.length
    · have hlt' : (k : Int) < (l.length : Int) := by omega
      obtain ⟨b, off, rfl, hc⟩ := H1.out k hlt
      have hc0 := (hb.cell (cell_lt' hc)).trans hc
      have HDr : Hid (bagP over (l.drop k) m' = if idxS (l.getD k ByteArray.empty) m' < 0 then false else bagP over (l.drop (k + 1)) (wo (l.getD k ByteArray.empty) m')) := bagP_drop hlt
      clear hc
      generalize l.getD k ByteArray.empty = x at *
      have hz : wr.heap.size ≤ wr.heap.size := Nat.le_refl _
      by_cases hx : idxS x m' < 0
      · have HF : Hid (bagP over l m = false) := by show _ = _; rw [HBg.out.1, HDr.out, if_pos hx]
        go_wp2_with (go_at_call 39; refine Calls.mono (HI2.out _ (Below.refl _ _) _) ?_; rintro e w2 ⟨rfl, hb2⟩; have hc2 := (hb2.cell (cell_lt' hc0)).trans hc0)
        go_ret
        exact ⟨by rw [HF.out]; rfl, hb.trans (hb2.mono hb.size)⟩
      · have HF : Hid (bagP over l m = bagP over (l.drop (k + 1)) (wo x m')) := by show _ = _; rw [HBg.out.1, HDr.out, if_neg hx]
        go_wp2_with (first
          | (go_at_call 39; refine Calls.mono (HI2.out _ (Below.refl _ _) _) ?_; rintro e w2 ⟨rfl, hb2⟩; have hc2 := (hb2.cell (cell_lt' hc0)).trans hc0)
          | (go_at_call 35; refine Calls.mono (HW2.out _ hb2 _) ?_; rintro e w3 ⟨u3, rfl, hs3, hb3⟩))
        go_roundw
        case rel => exact ⟨k + 1, by omega, by go_num, ⟨_, hs3, HF.out, Nat.le_trans (wo_len _ _) HBg.out.2⟩, (hb.trans (hb2.mono hb.size)).trans (hb3.mono (Nat.le_trans hb.size hb2.size))⟩
        case measure => simp [intOf]; omega
    · have hlt' : ¬ (k : Int) < (l.length : Int) := by omega
      obtain rfl : k = l.length := by omega
      have HE : Hid (bagP over l m = decide ((m'.length : Int) ≤ over)) := by show _ = _; rw [HBg.out.1, List.drop_length]; rfl
      go_wp2_with fail
      go_ret
      exact ⟨by rw [HE.out]; rfl, hb⟩
section
variable {w W : World} {d : Nat} {O : Nat → Nat} {D : Ds}
set_option maxHeartbeats 2000000 in
theorem again10 (h : D1 w W d O D) {q : Nat} (hf : Few D q) (hq : q ≤ 1000) (pv : Value) (ps : List Int) (hp : Rp W pv ps) (hpO : ps.length ≠ 0 → ∀ b n c, pv = .slice (some ⟨b, n, none⟩) ps.length c → O b = 0) :
    Calls Try.prog 27 #[.pointer (some ⟨d, 0, none⟩), pv] W fun e w' => ∃ d' O', e = .returned (.pointer (some ⟨d', 0, none⟩)) ∧ D1 w w' d' O' (dsN ((List.range 8).map (crash D ps)) 8) ∧ Fp O W O w' ∧ W.heap.size ≤ d' ∧ (∀ k, k < W.heap.size → O' k = 0) := by
  have HCr : Hid (Calls Try.prog 62 #[.pointer (some ⟨d, 0, none⟩), pv] W fun e w' => ∃ T rb, e = .returned (.slice (some ⟨rb, 0, none⟩) 8 8) ∧ Rows8 W w' T rb (crash D ps) ∧ D1 w w' d O { D with off := true } ∧ Fp O W O w') := d1Crash h hf hq pv ps hp hpO
  have HBel : Hid (Below w.heap.size w W) := h.bel
  have HSm : Hid (Sml ((List.range 8).map (crash D ps))) := small_crash hf ps
  clear h hf hp hpO
  go_enter Try.func27, Try.ntmps27
  go_wp2_with (go_at_call 62; refine stop10 ?_)
  unfold Hold10
  refine Calls.mono HCr.out ?_
  rintro e w1 ⟨T, rb, rfl, ⟨⟨pb, rv, pv7, hrw⟩, hT⟩, hd1, hf1⟩
  have hrl : Rl w1 (.slice (some ⟨rb, 0, none⟩) 8 8) ((List.range 8).map (crash D ps)) := hrw.rl fun i hi => by have := HSm.out (crash D ps i) (List.mem_map.2 ⟨i, by simpa using hi, rfl⟩); omega
  have HDi : Hid (Calls Try.prog 21 #[.slice (some ⟨rb, 0, none⟩) 8 8] w1 fun e w' => e = .returned (.pointer (some ⟨w1.heap.size, 0, none⟩)) ∧ Below w1.heap.size w1 w' ∧ ∃ O, D1 w1 w' w1.heap.size O (dsN ((List.range 8).map (crash D ps)) 8)) := disk10 w1 _ _ hrl (.inr (by simp)) HSm.out
  have H1 : Hid (D1 w w1 d O { D with off := true } ∧ Fp O W O w1) := ⟨hd1, hf1⟩
  clear hrw hT hd1 hf1 hrl
  go_wp2_with (go_at_call 21; refine Calls.mono HDi.out ?_; rintro e w2 ⟨rfl, hb2, O2, h2⟩)
  go_ret
  have hz1 := H1.out.2.size
  have hw1 := H1.out.1.bel
  have hwz := hw1.size
  refine ⟨w1.heap.size, O2, rfl, ⟨h2.dk, fun b hb => by have := h2.lo b hb; omega, hw1.trans (hb2.mono hwz)⟩, H1.out.2.trans (Fp.of_below O hb2), hz1, fun k hk => Classical.byContradiction fun h0 => by have := h2.lo k h0; omega⟩
end
end Go.Proofs.Ytjbhegakgdcldaa

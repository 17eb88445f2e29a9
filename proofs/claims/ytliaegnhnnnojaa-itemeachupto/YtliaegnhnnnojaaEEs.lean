import Derived.Test.YtliaegnhnnnojaaEEa
set_option linter.unusedSimpArgs false
set_option linter.unusedVariables false
set_option maxRecDepth 100000
namespace Go.Proofs.Ytliaegnhnnnojaa
open Go.RowKit Go.Shelf
attribute [local go_sem] Oper.semAt_some

/-! What item.Each tells, as a sequence. -/
set_option maxHeartbeats 2000000 in
theorem each1_seq (m n : Nat) (ys : List IT) (Bi B N o p : Nat) (ad : Option Addr) (c : Nat) (hm : 1 ≤ m) (w : World) (bI : Bk w Bi #[.slice ad ys.length c] 24) (hr : RdP w (fun b => B ≤ b ∧ b < N) (n + 1) ys (.slice ad ys.length c))
    (hB : 0 < B) (ho : o < B) (hp : p < B) (hw : IT.wts ys ≤ 1048576) :
    SeqA Fence.wide m Try.prog 47 #[.pointer (some ⟨Bi, 0, none⟩)] xenc (KpL N o p) (xgd n ys) (XS ys) (XP ys) w := by
  intro l J Jx W hbW hJ hJx hY h0
  have bI := bI.below hbW bI.lt
  have hr : RdP W (fun b => B ≤ b ∧ b < N) (n + 1) ys (.slice ad ys.length c) := hr.keep fun b _ hl => hbW.block b hl
  have hll := len_wts ys
  have HY : Hid (∀ pre x A0 A, J pre A0 → Below A0.heap.size A0 A → xgd n ys A0.heap.size pre x A → YieldAt Fence.wide (m - 1) Try.prog l (xenc x) A fun e B => (e = .returned (.bool true) ∧ J (pre ++ [x]) B ∧ KpL N o p A B) ∨ (e = .returned (.bool false) ∧ Jx (pre ++ [x]) B)) := hY
  have HJ : Hid (∀ s A B, J s A → Below A.heap.size A B → J s B) := hJ
  have HCd : Hid (CdS n) := copied_of n (copies_all n)
  have HWt : Hid (IT.wts ys ≤ 1048576) := hw
  have H0 : Hid (RdP W (fun b => B ≤ b ∧ b < N) (n + 1) ys (.slice ad ys.length c)) := hr
  clear hY hJ hJx hbW hr
  show CallsIn Fence.wide m Try.prog 47 #[.func (.yield l) #[] #[], .pointer (some ⟨Bi, 0, none⟩)] W _
  refine callsIn_of_wp Try.func47 rfl trivial ?_ rfl
  simp only [Try.ntmps47, List.size_toArray, List.length_cons, List.length_nil, Nat.reduceAdd, Nat.reduceSub, Array.replicate_succ, Array.replicate_zero, List.push_toArray, List.append_toArray, List.nil_append, List.cons_append]
  have t0 := bI.cell 0
  simp only [List.getElem?_toArray, List.getElem?_cons_zero] at t0
  gi_wp2
  gi_loopw [7] (fun i wr => ∃ (k : Nat) (zs : List EX), k ≤ ys.length ∧ i = .int .i64 (k : Int) ∧ Hid (zs.length = k ∧ zs.map EX.it = ys.take k ∧ RdP wr (fun b => B ≤ b ∧ b < N) (n + 1) ys (.slice ad ys.length c)) ∧ J zs wr) (fun i _ => ys.length - (intOf i).toNat)
  case atStart => exact ⟨0, [], by omega, rfl, ⟨rfl, by simp, H0.out⟩, h0⟩
  case round =>
    clear bI t0 h0
    obtain ⟨k, zs, hk, rfl, hzs, hJk⟩ := hrel
    clear H0
    by_cases hlt : k < ys.length
    · have hlt' : (k : Int) < (ys.length : Int) := by omega
      obtain ⟨n', hn', _, _, e2, -, hat⟩ := hzs.out.2.2.at
      obtain rfl : n = n' := by omega
      injection e2 with e2 e3 e4
      subst e2 e4
      obtain ⟨b, off, rfl, hbP, s0, s1, s2, c0, c1, c2, hrd⟩ := hat k hlt
      have hwk := wts_mem hlt
      have lb := cell_lt' c0
      have HNx : Hid (∀ (A : World) (ad' : Option Addr) (l' c' : Nat), Below wr.heap.size wr A → RdP A (wr.heap.size ≤ ·) n ys[k].items (.slice ad' l' c') → xgd n ys wr.heap.size zs ⟨ys[k], ad', l', c'⟩ A ∧ RdP A (fun b => B ≤ b ∧ b < N) (n + 1) ys (.slice (some ⟨b, off, none⟩) ys.length c)) := fun A ad' l' c' hA hrA => by
        refine ⟨⟨hrA, by rw [hzs.out.1]; exact hlt, ?_⟩, hzs.out.2.2.keep fun b _ hl => hA.block b hl⟩
        rw [List.map_append, hzs.out.2.1, hzs.out.1, List.take_succ_eq_append_getElem hlt]
        rfl
      have HC : Hid (∀ W, Below wr.heap.size wr W → Calls Try.prog 48 #[.agg #[.bool ys[k].list, .string ys[k].text, .slice s0 s1 s2]] W fun e w' => (∃ ad' l' c', e = .returned (.agg #[.bool ys[k].list, .string ys[k].text, .slice ad' l' c']) ∧ RdP w' (W.heap.size ≤ ·) n ys[k].items (.slice ad' l' c')) ∧ Below W.heap.size W w') := fun W hW => HCd.out ys[k] s0 s1 s2 W (hrd.rd.below hW) (by have := HWt.out; omega)
      have HL : Hid (zs.length = k ∧ ∀ x : EX, x.it = ys[k] → (zs ++ [x]).map EX.it = ys.take (k + 1)) := ⟨hzs.out.1, fun x hx => by rw [List.map_append, hzs.out.2.1, List.take_succ_eq_append_getElem hlt, ← hx]; rfl⟩
      generalize ys[k] = yk at *
      clear hrd hat hwk hn' hbP
      gi_wp2_with (refine ⟨trivial, ?_⟩; gi_at_call 48; refine (callsIn_wide.2 (HC.out _ ((Below.refl _ wr).alloc (Nat.le_refl _) _))).mono ?_; rintro e w2 ⟨⟨ad', l', c', rfl, hrd2⟩, hb2⟩)
      have hb0 : Below wr.heap.size wr (wr.alloc (.cells #[.bool yk.list, .string yk.text, .slice s0 s1 s2] 26)) := (Below.refl _ wr).alloc (Nat.le_refl _) _
      have hb2' : Below wr.heap.size wr w2 := hb0.trans (hb2.mono hb0.size)
      have hrd3 : RdP w2 (wr.heap.size ≤ ·) n yk.items (.slice ad' l' c') := hrd2.weak fun q hq => Nat.le_trans hb0.size hq
      obtain ⟨hgd, hrA⟩ := HNx.out w2 ad' l' c' hb2' hrd3
      have HRA : Hid (RdP w2 (fun b => B ≤ b ∧ b < N) (n + 1) ys (.slice (some ⟨b, off, none⟩) ys.length c)) := hrA
      obtain ⟨fn, tmps, assign, body, hy, hR⟩ := HY.out zs ⟨yk, ad', l', c'⟩ wr w2 hJk hb2' hgd
      simp only [xenc] at hy
      clear hrd2 hb2 hb2' hb0 hrd3 hgd hrA HC HNx c0 c1 c2
      rw [hy]
      gi_wp2
      refine hR.mono ?_
      rintro e W3 (⟨rfl, hJ3, hk3⟩ | ⟨rfl, hJx3⟩)
      · gi_wp2
        go_roundw
        case rel => exact ⟨k + 1, zs ++ [⟨yk, ad', l', c'⟩], by omega, by go_num, ⟨by rw [List.length_append, HL.out.1]; rfl, HL.out.2 _ rfl, HRA.out.kpl hB ho hp hk3⟩, hJ3⟩
        case measure => simp [intOf]; omega
      · gi_wp2
        refine bodyPost_ret (results_none rfl _ _ _) rfl ?_
        refine ⟨⟨_, rfl⟩, .inr ⟨_, ⟨?_, ?_⟩, hJx3⟩⟩
        · rw [List.length_append, HL.out.1]; show k + 1 ≤ _; omega
        · have hl : (zs ++ [(⟨yk, ad', l', c'⟩ : EX)]).length = k + 1 := by rw [List.length_append, HL.out.1]; rfl
          rw [hl]; exact HL.out.2 _ rfl
    · have hlt' : ¬ (k : Int) < (ys.length : Int) := by omega
      obtain rfl : k = ys.length := by omega
      gi_wp2
      go_end0
      refine ⟨⟨_, rfl⟩, .inl ⟨zs, ?_, hJk⟩⟩
      have := hzs.out.2.1
      rw [List.take_length] at this
      exact this
end Go.Proofs.Ytliaegnhnnnojaa

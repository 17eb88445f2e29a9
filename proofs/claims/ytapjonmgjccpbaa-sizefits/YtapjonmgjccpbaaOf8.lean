import Derived.Test.YtapjonmgjccpbaaJ25
import Derived.Test.YtapjonmgjccpbaaBy7
import Derived.Test.YtapjonmgjccpbaaRB7
import Derived.Deep.DeepCutAuto
set_option linter.unusedSimpArgs false
set_option linter.unusedVariables false
namespace Go.Proofs.Ytapjonmgjccpbaa
open Go.RowKit

/-! size.Of; the page's Slot and Shelf. -/
theorem txI_small (t : TX) (h : TxOk t) (hw : TXw t) : (txI t).raw.length ≤ 700 := by
  obtain ⟨h1, h4, hl, h64⟩ := fit_facts t h.2.2.2.2.1
  have hf := nT_size t.fr.toNat (by have := h.1.2; unfold M256; omega)
  have hn := nT_size t.no.toNat (by have := h.2.1.2; unfold M256; omega)
  have hg := nT_size t.ga.toNat (by have := h.2.2.1.2; unfold M256; omega)
  have hti := nT_size t.ti hw.ti
  have hca := nT_size t.ca hw.ca
  have hbc := nT_size t.bc hw.bc
  have hva := nT_size t.va hw.va
  have hp1 : IT.pds (hsI t) = 0 := txts_pd _ _
  have hp2 : IT.pds (bsI t) = 0 := txts_pd _ (fun b => b)
  have hr1 : (IT.raws (hsI t)).length ≤ (hsI t).length * 17 := raws_all _ _ fun x hx => by
    simp only [hsI, List.mem_map] at hx
    obtain ⟨m, _, rfl⟩ := hx
    have := txt_raw ⟨(mbs m).toArray⟩ (by show (mbs m).length ≤ _; rw [mbs_length]; omega)
    have e : (⟨(mbs m).toArray⟩ : ByteArray).size = 8 := mbs_length m
    omega
  have hr2 : (IT.raws (bsI t)).length ≤ (bsI t).length * 73 := raws_all _ _ fun x hx => by
    simp only [bsI, List.mem_map] at hx
    obtain ⟨b, hb, rfl⟩ := hx
    have := h64 b hb
    have := txt_raw b (by omega)
    omega
  have hw1 : IT.wts (hsI t) ≤ (hsI t).length * 9 := wts_all _ _ fun x hx => by
    simp only [hsI, List.mem_map] at hx
    obtain ⟨m, _, rfl⟩ := hx
    have e : (⟨(mbs m).toArray⟩ : ByteArray).size = 8 := mbs_length m
    simp only [IT.wt, IT.wts, e]
    omega
  have hw2 : IT.wts (bsI t) ≤ (bsI t).length * 65 := wts_all _ _ fun x hx => by
    simp only [bsI, List.mem_map] at hx
    obtain ⟨b, hb, rfl⟩ := hx
    have := h64 b hb
    simp only [IT.wt, IT.wts]
    omega
  have l1 : (hsI t).length = t.hs.length := by simp [hsI]
  have l2 : (bsI t).length = t.bs.length := by simp [bsI]
  rw [l1, hl] at hr1 hw1
  rw [l2] at hr2 hw2
  have b1 : t.bs.length * 17 ≤ 68 := by omega
  have b2 : t.bs.length * 73 ≤ 292 := by omega
  have b3 : t.bs.length * 9 ≤ 36 := by omega
  have b4 : t.bs.length * 65 ≤ 260 := by omega
  have q1 := txt_raw _ (show (nT t.fr.toNat).size ≤ 1048576 by omega)
  have q2 := txt_raw _ (show (nT t.no.toNat).size ≤ 1048576 by omega)
  have q3 := txt_raw _ (show (nT t.ti).size ≤ 1048576 by omega)
  have q4 := txt_raw _ (show (nT t.ca).size ≤ 1048576 by omega)
  have q5 := txt_raw _ (show (nT t.bc).size ≤ 1048576 by omega)
  have q6 := txt_raw _ (show (nT t.va).size ≤ 1048576 by omega)
  have q7 := txt_raw _ (show (nT t.ga.toNat).size ≤ 1048576 by omega)
  have e0 : (⟨#[]⟩ : ByteArray).size = 0 := rfl
  have d1 : (IT.mk true ⟨#[]⟩ (hsI t)).raw.length ≤ 77 := by
    rw [raw_list, List.length_append]
    have := hd_le 192 (IT.raws (hsI t)).length (by omega)
    omega
  have d2 : (IT.mk true ⟨#[]⟩ (bsI t)).raw.length ≤ 301 := by
    rw [raw_list, List.length_append]
    have := hd_le 192 (IT.raws (bsI t)).length (by omega)
    omega
  unfold txI
  rw [raw_list, List.length_append]
  have hs : (IT.raws [txtI (nT t.fr.toNat), txtI (nT t.no.toNat), txtI (nT t.ti), txtI (nT t.ca), txtI (nT t.bc), txtI (nT t.va), txtI (nT t.ga.toNat), .mk true ⟨#[]⟩ (hsI t), .mk true ⟨#[]⟩ (bsI t)]).length ≤ 690 := by
    rw [IT.raws, IT.raws, IT.raws, IT.raws, IT.raws, IT.raws, IT.raws, IT.raws, IT.raws, IT.raws]
    simp only [List.length_append, List.length_nil]
    omega
  have := hd_le 192 _ (show (IT.raws [txtI (nT t.fr.toNat), txtI (nT t.no.toNat), txtI (nT t.ti), txtI (nT t.ca), txtI (nT t.bc), txtI (nT t.va), txtI (nT t.ga.toNat), .mk true ⟨#[]⟩ (hsI t), .mk true ⟨#[]⟩ (bsI t)]).length < 18446744073709551616 by omega)
  omega
theorem size_small (t : TX) (h : TxOk t) (hw : TXw t) : (itS (txI t)).size ≤ 700 := by
  unfold itS
  split
  · rw [st_size]; exact txI_small t h hw
  · rw [st_size]; simp
theorem rslot (k : Int) (hk : 0 ≤ k ∧ k ≤ 3) (w : World) : Calls Try.prog 31 #[.int .i64 k] w fun e w' => e = .returned (.int .i64 (slV k)) ∧ w' = w := by
  have : k = 0 ∨ k = 1 ∨ k = 2 ∨ k = 3 := by omega
  rcases this with rfl | rfl | rfl | rfl
  all_goals
    go_enter Try.func31, Try.ntmps31
    go_wp2_with fail
    go_ret
    exact ⟨by rfl, rfl⟩
theorem shV_iff (n : Int) (h : 0 ≤ n ∧ n ≤ 1008) (k : Int) (hk : 0 ≤ k ∧ k ≤ shV n) : (n ≤ slV k - 16 ↔ k = shV n) := by
  obtain ⟨-, hq, -, h3, h4⟩ := sh_facts n h
  constructor
  · intro hle
    refine Decidable.byContradiction fun hne => ?_
    have hlt : k < shV n := by omega
    have hp : 0 < shV n := by omega
    have h5 := (h4 hp).2.1
    have hm : slV k ≤ slV (shV n - 1) := by
      have e1 : k = 0 ∨ k = 1 ∨ k = 2 := by omega
      have e2 : shV n = 1 ∨ shV n = 2 ∨ shV n = 3 := by omega
      rcases e2 with e2 | e2 | e2 <;> rw [e2] <;> rcases e1 with rfl | rfl | rfl <;> first | omega | (show (_ : Int) ≤ _; decide)
    omega
  · rintro rfl
    omega
set_option maxRecDepth 100000 in
set_option maxHeartbeats 1000000 in
theorem rshelf (n : Int) (h : 0 ≤ n ∧ n ≤ 1008) (w : World) : Calls Try.prog 30 #[.int .i64 n] w fun e w' => e = .returned (.tuple #[.int .i64 (shV n), .bool true]) ∧ w' = w := by
  have HI : Hid (∀ k : Int, 0 ≤ k ∧ k ≤ shV n → (n ≤ slV k - 16 ↔ k = shV n)) := shV_iff n h
  have HQ : Hid (0 ≤ shV n ∧ shV n ≤ 3) := (sh_facts n h).2.1
  have HS : Hid (∀ k : Int, 0 ≤ k ∧ k ≤ 3 → ∀ w, Calls Try.prog 31 #[.int .i64 k] w fun e w' => e = .returned (.int .i64 (slV k)) ∧ w' = w) := fun k hk w => rslot k hk w
  go_enter Try.func30, Try.ntmps30
  go_wp2_with fail
  go_loopw [4] (fun i wr => ∃ k : Int, 0 ≤ k ∧ k ≤ shV n ∧ i = .int .i64 k ∧ wr = w) (fun i _ => (4 - intOf i).toNat)
  case atStart => exact ⟨0, by omega, HQ.out.1, rfl, rfl⟩
  case round =>
    obtain ⟨k, hk0, hk1, rfl, rfl⟩ := hrel
    have hk3 := HQ.out.2
    have hlt : k < 4 := by omega
    have hb := slV_bd k
    have hi := HI.out k ⟨hk0, hk1⟩
    have HSk : Hid (∀ w, Calls Try.prog 31 #[.int .i64 k] w fun e w' => e = .returned (.int .i64 (slV k)) ∧ w' = w) := HS.out k ⟨hk0, by omega⟩
    generalize slV k = s at *
    have hw : IntKind.i64.wrap (s - 16) = s - 16 := by rw [IntKind.wrap_i64]; omega
    by_cases he : k = shV n
    · have hle : n ≤ s - 16 := hi.2 he
      have HE : Hid (k = shV n) := he
      clear hi he
      go_wp2_with (go_at_call 31; refine (HSk.out _).mono ?_; rintro e w9 ⟨rfl, rfl⟩)
      go_ret2
      exact ⟨by rw [← HE.out]; rfl, rfl⟩
    · have hle : ¬ n ≤ s - 16 := fun e => he (hi.1 e)
      have hk4 : k + 1 ≤ shV n := by omega
      have HK : Hid (k + 1 ≤ shV n) := hk4
      clear hi he hk4
      go_wp2_with (go_at_call 31; refine (HSk.out _).mono ?_; rintro e w9 ⟨rfl, rfl⟩)
      go_roundw
      case rel => exact ⟨k + 1, by omega, HK.out, by go_num, by first | rfl | trivial⟩
      case measure => simp [intOf]; omega
def ofN (t : TX) : Int := if TxOk t then ((itS (txI t)).size : Int) else 0
def ofK (t : TX) : Int := if TxOk t then shV ((itS (txI t)).size : Int) else 0
def ofS (t : TX) : Int := if TxOk t then slV (shV ((itS (txI t)).size : Int)) else 0
set_option maxRecDepth 100000 in
set_option maxHeartbeats 1000000 in
theorem of8 (t : TX) (aH aB : Option Addr) (cH cB : Nat) (w : World) (hw : TXw t) (hr : RT w t (.slice aH t.hs.length cH) (.slice aB t.bs.length cB)) :
    Calls Try.prog 27 #[.agg (txc t (.slice aH t.hs.length cH) (.slice aB t.bs.length cB))] w fun e w' => e = .returned (.tuple #[.int .i64 (ofN t), .int .i64 (ofK t), .int .i64 (ofS t), .int .i64 (cosE t)]) ∧ Below w.heap.size w w' := by
  have HBy : Hid (∀ W, Below w.heap.size w W → Calls Try.prog 22 #[.agg (txc t (.slice aH t.hs.length cH) (.slice aB t.bs.length cB))] W fun e w' => e = .returned (.tuple #[.string (bytS t), .int .i64 (cosE t)]) ∧ Below W.heap.size W w') := fun W h => bytes7 t aH aB cH cB W hw (hr.below h)
  have HZ : Hid (TxOk t → (itS (txI t)).size ≤ 700) := fun h => size_small t h hw
  clear hw hr
  obtain ⟨wr, hwr⟩ : ∃ wr, wr = w.alloc (.cells (txc t (.slice aH t.hs.length cH) (.slice aB t.bs.length cB)) 30) := ⟨_, rfl⟩
  go_enter Try.func27, Try.ntmps27
  go_upto_region 1 with fail
  rw [← hwr]
  have bX : Bk wr w.heap.size (txc t (.slice aH t.hs.length cH) (.slice aB t.bs.length cB)) 30 := by rw [hwr]; exact Bk.new _ _ _
  have HB : Hid (Below w.heap.size w wr) := by show Below _ _ _; rw [hwr]; exact (Below.refl _ _).alloc (Nat.le_refl _) _
  have HX : Hid (Bk wr w.heap.size (txc t (.slice aH t.hs.length cH) (.slice aB t.bs.length cB)) 30) := bX
  clear hwr bX
  go_wp2_with (refine wpList_load_tx rfl _ rfl rfl HX.out ?_)
  refine (HBy.out _ HB.out).mono ?_
  rintro e w1 ⟨rfl, hb1⟩
  have HB1 : Hid (Below w.heap.size w w1) := HB.out.trans (hb1.mono HB.out.size)
  clear hb1 HB HX
  by_cases hok : TxOk t
  · have e0 : cosE t = 0 := if_pos hok
    have e1 : bytS t = itS (txI t) := if_pos hok
    have HE : Hid (ofN t = ((itS (txI t)).size : Int) ∧ ofK t = shV ((itS (txI t)).size : Int) ∧ ofS t = slV (shV ((itS (txI t)).size : Int)) ∧ cosE t = 0) := ⟨if_pos hok, if_pos hok, if_pos hok, e0⟩
    have hz := HZ.out hok
    obtain ⟨f1, f2, f3, -, -⟩ := sh_facts ((itS (txI t)).size : Int) ⟨by omega, by omega⟩
    have HSh : Hid (∀ w, Calls Try.prog 33 #[.int .i64 ((itS (txI t)).size : Int)] w fun e w' => e = .returned (.tuple #[.int .i64 (shV ((itS (txI t)).size : Int)), .int .i64 0]) ∧ Below w.heap.size w w') := fun w => by
      have := shelf ((itS (txI t)).size : Int) (by omega) w
      rw [f1] at this
      exact this
    have HSl : Hid (∀ w, Calls Try.prog 34 #[.int .i64 (shV ((itS (txI t)).size : Int))] w fun e w' => e = .returned (.tuple #[.int .i64 (slV (shV ((itS (txI t)).size : Int))), .int .i64 0]) ∧ w' = w) := fun w => by
      have := slot (shV ((itS (txI t)).size : Int)) (by omega) w
      rw [f3] at this
      exact this
    rw [e0, e1]
    clear e0 e1 HBy f1 f2 f3 hz
    go_wp2_with fail
    refine (HSh.out _).mono ?_
    rintro e w2 ⟨rfl, hb2⟩
    go_wp2_with fail
    refine (HSl.out _).mono ?_
    rintro e w3 ⟨rfl, rfl⟩
    go_wp2_with fail
    refine bodyPost_ret (v := .tuple #[.int .i64 ((itS (txI t)).size : Int), .int .i64 (shV ((itS (txI t)).size : Int)), .int .i64 (slV (shV ((itS (txI t)).size : Int))), .int .i64 0]) ?_ rfl ?_
    · simp [results, Try.results27, go_sem]
    exact ⟨by rw [HE.out.1, HE.out.2.1, HE.out.2.2.1, HE.out.2.2.2], HB1.out.trans (hb2.mono HB1.out.size)⟩
  · have e0 : cosE t = 1 := if_neg hok
    have HE : Hid (ofN t = 0 ∧ ofK t = 0 ∧ ofS t = 0 ∧ cosE t = 1) := ⟨if_neg hok, if_neg hok, if_neg hok, e0⟩
    rw [e0]
    clear e0 HBy
    go_wp2_with fail
    refine bodyPost_ret (v := .tuple #[.int .i64 0, .int .i64 0, .int .i64 0, .int .i64 1]) ?_ rfl ?_
    · simp [results, Try.results27, go_sem]
    exact ⟨by rw [HE.out.1, HE.out.2.1, HE.out.2.2.1, HE.out.2.2.2], HB1.out⟩
end Go.Proofs.Ytapjonmgjccpbaa

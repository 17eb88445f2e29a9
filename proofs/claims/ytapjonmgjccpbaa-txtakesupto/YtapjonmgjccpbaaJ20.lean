/- Texts joined: Rt7 T7 EqM EqS Eql. -/
import Derived.Test.YtapjonmgjccpbaaJ17
import Derived.Test.YtapjonmgjccpbaaBy7
import Derived.Test.YtapjonmgjccpbaaJ9
import Derived.Test.YtapjonmgjccpbaaJ10
import Derived.Test.YtapjonmgjccpbaaJ2
import Derived.Test.YtapjonmgjccpbaaJ0
import Derived.Test.YtapjonmgjccpbaaJ3
section
set_option linter.unusedSimpArgs false
set_option linter.unusedVariables false
namespace Go.Proofs.Ytapjonmgjccpbaa
open Go.RowKit

/-! A transaction's bytes are read as it. -/
theorem nT_st (n : Nat) : nT n = st (tb n) := by simp [nT, strOfNums, st, tb]
theorem tk_nT (n : Nat) (h : n < M256) : tkE (nT n) = 0 ∧ tkV (nT n) = n := by
  rw [nT_st]
  have hg := good_txt4 n h
  have ht := take_txt4 n h
  refine ⟨by unfold tkE; rw [if_pos hg], ?_⟩
  unfold tkV
  rw [if_pos hg]
  have e : (st (tb n)).data.toList = tb n := by simp [st]
  rw [e, ht]
theorem nb_nT (n : Nat) (h : n < M256) : nbOk false (nT n) = true := by
  unfold nbOk
  rw [(tk_nT n h).1]
  rfl
theorem wh_nT (n : Nat) (h : n < 9223372036854775808) : whOk false (nT n) = true ∧ whV false (nT n) = (n : Int) := by
  have hM : n < M256 := by unfold M256; omega
  have h1 : whOk false (nT n) = true := by
    unfold whOk
    rw [nb_nT n hM, (tk_nT n hM).2, Bool.true_and]
    have : bl n ≤ 63 := (bl_iff n 63).2 (by simpa using h)
    exact decide_eq_true (by omega)
  refine ⟨h1, ?_⟩
  unfold whV
  rw [if_pos h1, (tk_nT n hM).2]
theorem takeV_mbs7 (m : Nat) (h : m < 18446744073709551616) : takeV (mbs m) = m := by
  have e : ∀ j, (UInt8.ofNat (mb m j)).toNat = mb m j := fun j => by have := mb_lt m j; simp; omega
  simp only [takeV, mbs, List.foldl_cons, List.foldl_nil, e]
  unfold mb
  omega
theorem mtV_mbs7 (m : Nat) (h : m < 18446744073709551616) : mtV ⟨(mbs m).toArray⟩ = m := by
  unfold mtV
  rw [if_pos (show (⟨(mbs m).toArray⟩ : ByteArray).size = 8 from mbs_length m)]
  show takeV (mbs m) = m
  exact takeV_mbs7 m h
theorem rd_tx (t : TX) (h : TxOk t) (hw : TXw t) : okT (txI t).items = true ∧ rdT (txI t).items = t := by
  obtain ⟨f1, f2⟩ := wh_nT t.fr.toNat (by have := h.1; unfold inN at this; omega)
  obtain ⟨n1, n2⟩ := wh_nT t.no.toNat (by have := h.2.1; unfold inN at this; omega)
  obtain ⟨g1, g2⟩ := wh_nT t.ga.toNat (by have := h.2.2.1; unfold inN at this; omega)
  have e7 : (hsI t).map (fun y => mtV y.text) = t.hs := by
    have hh := hw.hs
    unfold hsI
    generalize t.hs = l at *
    induction l with
    | nil => rfl
    | cons m l ih =>
      rw [List.map_cons, List.map_cons, ih (fun x hx => hh x (by simp [hx]))]
      rw [show mtV (txtI ⟨(mbs m).toArray⟩).text = m from mtV_mbs7 m (hh m (by simp))]
  have e8 : (bsI t).map (fun y => y.text) = t.bs := by
    unfold bsI
    generalize t.bs = l
    induction l with
    | nil => rfl
    | cons b l ih => rw [List.map_cons, List.map_cons, ih]; rfl
  have o7 : lsU (.mk true ⟨#[]⟩ (hsI t)) = true := by
    show (true && (hsI t).all gdU) = true
    rw [Bool.true_and, List.all_eq_true]
    intro y hy
    obtain ⟨m, _, rfl⟩ := List.mem_map.1 hy
    show (!false && ((⟨(mbs m).toArray⟩ : ByteArray).size == 8)) = true
    rw [show (⟨(mbs m).toArray⟩ : ByteArray).size = 8 from mbs_length m]
    rfl
  have o8 : lsS (.mk true ⟨#[]⟩ (bsI t)) = true := by
    show (true && (bsI t).all gdS) = true
    rw [Bool.true_and, List.all_eq_true]
    intro y hy
    obtain ⟨b, _, rfl⟩ := List.mem_map.1 hy
    rfl
  constructor
  · unfold okT
    rw [Bool.and_eq_true]
    refine ⟨decide_eq_true rfl, ?_⟩
    rw [List.all_eq_true]
    intro i hi
    have hi9 : i < 9 := by simpa using hi
    have : i = 0 ∨ i = 1 ∨ i = 2 ∨ i = 3 ∨ i = 4 ∨ i = 5 ∨ i = 6 ∨ i = 7 ∨ i = 8 := by omega
    rcases this with rfl | rfl | rfl | rfl | rfl | rfl | rfl | rfl | rfl
    · exact f1
    · exact n1
    · exact nb_nT _ hw.ti
    · exact nb_nT _ hw.ca
    · exact nb_nT _ hw.bc
    · exact nb_nT _ hw.va
    · exact g1
    · exact o7
    · exact o8
  · show TX.mk (whV false (nT t.fr.toNat)) (whV false (nT t.no.toNat)) (tkV (nT t.ti)) (tkV (nT t.ca)) (tkV (nT t.bc)) (tkV (nT t.va)) (whV false (nT t.ga.toNat)) ((hsI t).map fun y => mtV y.text) ((bsI t).map fun y => y.text) = t
    rw [f2, n2, g2, (tk_nT _ hw.ti).2, (tk_nT _ hw.ca).2, (tk_nT _ hw.bc).2, (tk_nT _ hw.va).2, e7, e8, Int.toNat_of_nonneg h.1.1, Int.toNat_of_nonneg h.2.1.1, Int.toNat_of_nonneg h.2.2.1.1]
theorem tk_tx (t : TX) (h : TxOk t) (hw : TXw t) : tkOk (itS (txI t)) ∧ tkT (itS (txI t)) = t ∧ tkTE (itS (txI t)) = 0 := by
  obtain ⟨hio, -⟩ := txI_ok t h hw
  obtain ⟨r1, r2⟩ := rd_tx t h hw
  have e : itS (txI t) = st (txI t).raw := if_pos hio
  have ht : tk0 (itS (txI t)) = (txI t, (txI t).raw.length, 0) := by
    have := tk_raw 16 (by omega) (txI t) [] hio.1 hio.2
    rw [List.append_nil] at this
    rw [e]
    exact this
  have hz : pz (itS (txI t)) = (txI t, 0) := by
    unfold pz
    rw [ht]
    have hs : (itS (txI t)).size = (txI t).raw.length := by rw [e, st_size]
    rw [if_neg (by simp), if_neg (by rw [hs]; simp)]
  have hok : tkOk (itS (txI t)) := by
    unfold tkOk
    rw [hz]
    exact ⟨rfl, rfl, r1, by rw [r2]; exact h⟩
  refine ⟨hok, ?_, if_pos hok⟩
  unfold tkT
  rw [if_pos hok, hz]
  exact r2
end Go.Proofs.Ytapjonmgjccpbaa
end
section
set_option linter.unusedSimpArgs false
set_option linter.unusedVariables false
namespace Go.Proofs.Ytapjonmgjccpbaa
open Go.RowKit

/-! tarnlaw7.T: a plain transaction. -/
def bB : ByteArray := ⟨#[98]⟩
def plain (f n : Int) (p : Nat) : TX := ⟨f, n, p, 2 * p % 18446744073709551616, p, 0, 1, [mk (blp bB)], [bB]⟩
set_option maxRecDepth 100000 in
set_option maxHeartbeats 2000000 in
theorem mkT (f n : Int) (p : Nat) (hp : p < 18446744073709551616) (w : World) :
    Calls Try.prog 24 #[.int .i64 f, .int .i64 n, .int .u64 (p : Int)] w fun e w' => (∃ a' b' c' d', e = .returned (.agg (txc (plain f n p) (.slice a' 1 c') (.slice b' 1 d'))) ∧ OT w' w.heap.size (plain f n p) (.slice a' 1 c') (.slice b' 1 d')) ∧ Below w.heap.size w w' := by
  have HH : Hid (∀ w, Calls Try.prog 35 #[.string ⟨#[98]⟩] w fun e w' => e = .returned (.int .u64 (mk (blp bB) : Int)) ∧ w' = w) := fun w => rhash bB (by show 1 ≤ _; omega) w
  have h2p : IntKind.u64.wrap (2 * (p : Int)) = ((2 * p % 18446744073709551616 : Nat) : Int) := by rw [IntKind.wrap_u64]; omega
  obtain ⟨q, hq⟩ : ∃ q, q = 2 * p % 18446744073709551616 := ⟨_, rfl⟩
  have hq64 : q < 18446744073709551616 := by omega
  rw [← hq] at h2p
  have HP : Hid (plain f n p = ⟨f, n, p, q, p, 0, 1, [mk (blp bB)], [bB]⟩) := by show _ = _; unfold plain; rw [← hq]
  obtain ⟨p0, p1, p2, p3⟩ := lb_small p hp
  obtain ⟨q0, q1, q2, q3⟩ := lb_small q hq64
  have HL : Hid ((lb p 0 = p ∧ lb p 1 = 0 ∧ lb p 2 = 0 ∧ lb p 3 = 0) ∧ (lb q 0 = q ∧ lb q 1 = 0 ∧ lb q 2 = 0 ∧ lb q 3 = 0)) := ⟨⟨p0, p1, p2, p3⟩, ⟨q0, q1, q2, q3⟩⟩
  rw [HP.out]
  obtain ⟨y, hy⟩ : ∃ y, y = mk (blp bB) := ⟨_, rfl⟩
  rw [← hy] at HH ⊢
  clear hq hy p0 p1 p2 p3 q0 q1 q2 q3 HP
  go_enter Try.func24, Try.ntmps24
  go_wp2_with fail
  refine (HH.out _).mono ?_
  rintro e w1 ⟨rfl, rfl⟩
  have HE : Hid (Value.agg (txc ⟨f, n, p, q, p, 0, 1, [y], [bB]⟩ (.slice (some ⟨w.heap.size + 1, 0, none⟩) 1 1) (.slice (some ⟨w.heap.size + 1 + 1, 0, none⟩) 1 1)) = .agg #[.int .i64 f, .int .i64 n, .int .u64 p, .int .u64 0, .int .u64 0, .int .u64 0, .int .u64 q, .int .u64 0, .int .u64 0, .int .u64 0, .int .u64 p, .int .u64 0, .int .u64 0, .int .u64 0, .int .u64 0, .int .u64 0, .int .u64 0, .int .u64 0, .int .i64 1, (.slice (some ⟨w.heap.size + 1, 0, none⟩) 1 1), (.slice (some ⟨w.heap.size + 1 + 1, 0, none⟩) 1 1)]) := by
    show Value.agg #[.int .i64 f, .int .i64 n, .int .u64 (lb p 0), .int .u64 (lb p 1), .int .u64 (lb p 2), .int .u64 (lb p 3), .int .u64 (lb q 0), .int .u64 (lb q 1), .int .u64 (lb q 2), .int .u64 (lb q 3), .int .u64 (lb p 0), .int .u64 (lb p 1), .int .u64 (lb p 2), .int .u64 (lb p 3), .int .u64 (lb 0 0), .int .u64 (lb 0 1), .int .u64 (lb 0 2), .int .u64 (lb 0 3), .int .i64 1, (.slice (some ⟨w.heap.size + 1, 0, none⟩) 1 1), (.slice (some ⟨w.heap.size + 1 + 1, 0, none⟩) 1 1)] = _
    rw [HL.out.1.1, HL.out.1.2.1, HL.out.1.2.2.1, HL.out.1.2.2.2, HL.out.2.1, HL.out.2.2.1, HL.out.2.2.2.1, HL.out.2.2.2.2, lb_zero, lb_zero, lb_zero, lb_zero]
  go_wp2_with (refine wpList_store_tx rfl _ _ rfl rfl (t := ⟨f, n, p, q, p, 0, 1, [y], [bB]⟩) (aH := some ⟨w.heap.size + 1, 0, none⟩) (aB := some ⟨w.heap.size + 1 + 1, 0, none⟩) (nH := 1) (cH := 1) (nB := 1) (cB := 1) HE.out.symm (((Bk.new w _ _).alloc _).alloc _) rfl ?_; intro W hS)
  have hld := run_loadVar_mid (P := Try.prog) W w.heap.size 0 30 (txc ⟨f, n, p, q, p, 0, 1, [y], [bB]⟩ (.slice (some ⟨w.heap.size + 1, 0, none⟩) 1 1) (.slice (some ⟨w.heap.size + 1 + 1, 0, none⟩) 1 1)).toList _ (fun j x hx => by rw [Nat.zero_add, hS.bR.cell]; simpa using hx) Try.underlying30 rfl infoT
  have z1 : (w.alloc (.cells z21 30)).heap.size = w.heap.size + 1 := by simp
  have hr1 : Or 24 cU ((w.alloc (.cells z21 30)).alloc (.cells #[.int .u64 (y : Int)] 24)) w.heap.size (.slice (some ⟨w.heap.size + 1, 0, none⟩) 1 1) [y] := by
    have := World.ownsRow_lit (base := w.heap.size) (e := 24) (size := 1) (w.alloc (.cells z21 30)) #[.int .u64 (y : Int)] 1 (by simp) (by unfold maxLen; omega) rfl
    rw [z1] at this
    exact this
  have z2 : ((w.alloc (.cells z21 30)).alloc (.cells #[.int .u64 (y : Int)] 24)).heap.size = w.heap.size + 1 + 1 := by simp
  have hr2 : Or 9 cS (((w.alloc (.cells z21 30)).alloc (.cells #[.int .u64 (y : Int)] 24)).alloc (.cells #[.string ⟨#[98]⟩] 9)) w.heap.size (.slice (some ⟨w.heap.size + 1 + 1, 0, none⟩) 1 1) [bB] := by
    have := World.ownsRow_lit (base := w.heap.size) (e := 9) (size := 1) ((w.alloc (.cells z21 30)).alloc (.cells #[.int .u64 (y : Int)] 24)) #[.string ⟨#[98]⟩] 1 (by simp; omega) (by unfold maxLen; omega) rfl
    rw [z2] at this
    exact this
  have hB : Below w.heap.size w (((w.alloc (.cells z21 30)).alloc (.cells #[.int .u64 (y : Int)] 24)).alloc (.cells #[.string ⟨#[98]⟩] 9)) := (((Below.refl _ _).alloc (Nat.le_refl _) _).alloc (by simp) _).alloc (by simp; omega) _
  refine bodyPost_ret (v := .agg (txc ⟨f, n, p, q, p, 0, 1, [y], [bB]⟩ (.slice (some ⟨w.heap.size + 1, 0, none⟩) 1 1) (.slice (some ⟨w.heap.size + 1 + 1, 0, none⟩) 1 1))) ?_ rfl ⟨⟨_, _, _, _, rfl, ⟨?_, ?_⟩⟩, hS.below _ _ (Nat.le_refl _) hB⟩
  · simp only [results, Try.results24, Act.put]
    simp [asAddr, hld]
  · exact hS.or (hr1.alloc _) (by simp [Value.ownBlock])
  · exact hS.or hr2 (by simp [Value.ownBlock]; omega)
end Go.Proofs.Ytapjonmgjccpbaa
end
section
set_option linter.unusedSimpArgs false
set_option linter.unusedVariables false
namespace Go.Proofs.Ytapjonmgjccpbaa
open Go.RowKit

/-! tarnref0.EqMarks. -/
theorem eqMarks_ext (xs ys : List Nat) (h : xs.length = ys.length) (hh : ∀ i, i < xs.length → xs.getD i 0 = ys.getD i 0) : xs = ys := by
  apply List.ext_getElem h
  intro i h1 h2
  have := hh i h1
  simpa [h1, h2] using this
set_option maxRecDepth 100000 in
set_option maxHeartbeats 1000000 in
theorem eqMarks (u v : Value) (xs ys : List Nat) (w : World) (hu : Su w u (fun i => xs.getD i 0) xs.length) (hv : Su w v (fun i => ys.getD i 0) ys.length) :
    Calls Try.prog 43 #[u, v] w fun r w' => r = .returned (.bool (decide (xs = ys))) ∧ Below w.heap.size w w' := by
  obtain ⟨l1, -, a1, c1, rfl, h1⟩ := hu
  obtain ⟨l2, -, a2, c2, rfl, h2⟩ := hv
  unfold maxLen at l1 l2
  have H1 : Hid (∀ i, i < xs.length → ∃ b off, a1 = some ⟨b, off, none⟩ ∧ w.cell? ⟨b, off + i, none⟩ = some (cU (xs.getD i 0))) := h1
  have H2 : Hid (∀ i, i < ys.length → ∃ b off, a2 = some ⟨b, off, none⟩ ∧ w.cell? ⟨b, off + i, none⟩ = some (cU (ys.getD i 0))) := h2
  clear h1 h2
  by_cases hl : xs.length = ys.length
  · have hl' : ((xs.length : Int) != (ys.length : Int)) = false := by rw [bne_eq_false_iff_eq]; omega
    have HL : Hid (xs.length = ys.length) := hl
    clear hl
    go_enter Try.func43, Try.ntmps43
    go_wp2_with fail
    go_loopw [5] (fun i wr => ∃ k : Nat, k ≤ xs.length ∧ i = .int .i64 (k : Int) ∧ (∀ j, j < k → xs.getD j 0 = ys.getD j 0) ∧ Below w.heap.size w wr) (fun i _ => xs.length - (intOf i).toNat)
    case atStart => exact ⟨0, by omega, rfl, fun j hj => absurd hj (by omega), Below.refl _ _⟩
    case round =>
      obtain ⟨k, hk, rfl, hall, hb⟩ := hrel
      have HAll : Hid (∀ j, j < k → xs.getD j 0 = ys.getD j 0) := hall
      clear hall
      by_cases hlt : k < xs.length
      · have hlt' : (k : Int) < (xs.length : Int) := by omega
        have hlt2 : k < ys.length := by have := HL.out; omega
        have hlt2' : (k : Int) < (ys.length : Int) := by omega
        obtain ⟨b, off, rfl, hc⟩ := H1.out k hlt
        obtain ⟨b', off', rfl, hc'⟩ := H2.out k hlt2
        replace hc := (hb.cell (cell_lt' hc)).trans hc
        replace hc' := (hb.cell (cell_lt' hc')).trans hc'
        by_cases he : xs.getD k 0 = ys.getD k 0
        · have HE : Hid (xs.getD k 0 = ys.getD k 0) := he
          rw [he] at hc
          generalize ys.getD k 0 = y at hc hc'
          clear he
          have hq : ((y : Int) != (y : Int)) = false := by rw [bne_eq_false_iff_eq]
          go_upto_region 6 with fail
          go_quiet (fail)
          go_wp2_with fail
          go_roundw
          case rel =>
            refine ⟨k + 1, by omega, by go_num, fun j hj => ?_, bdrewN hb _⟩
            rcases Nat.lt_or_ge j k with h | h
            · exact HAll.out j h
            · obtain rfl : j = k := by omega
              exact HE.out
          case measure => simp [intOf]; omega
        · have HN : Hid (decide (xs = ys) = false) := decide_eq_false fun h => he (by rw [h])
          generalize xs.getD k 0 = x at hc he
          generalize ys.getD k 0 = y at hc' he
          have hq : ((x : Int) != (y : Int)) = true := by rw [bne_iff_ne]; omega
          clear he
          go_upto_region 6 with fail
          go_quiet (fail)
          go_wp2_with fail
          go_ret
          exact ⟨by rw [HN.out]; rfl, bdrewN hb _⟩
      · have hlt' : ¬ (k : Int) < (xs.length : Int) := by omega
        have HN : Hid (decide (xs = ys) = true) := decide_eq_true (eqMarks_ext xs ys HL.out fun j hj => HAll.out j (by omega))
        go_wp2_with fail
        go_ret
        exact ⟨by rw [HN.out]; rfl, hb⟩
  · have hl' : ((xs.length : Int) != (ys.length : Int)) = true := by rw [bne_iff_ne]; omega
    have HN : Hid (decide (xs = ys) = false) := decide_eq_false fun h => hl (by rw [h])
    clear hl
    go_enter Try.func43, Try.ntmps43
    go_wp2_with fail
    go_ret
    exact ⟨by rw [HN.out]; rfl, Below.refl _ _⟩
end Go.Proofs.Ytapjonmgjccpbaa
end
section
set_option linter.unusedSimpArgs false
set_option linter.unusedVariables false
namespace Go.Proofs.Ytapjonmgjccpbaa
open Go.RowKit

/-! tarnref0.EqStrings. -/
theorem eqStrings_ext (xs ys : List ByteArray) (h : xs.length = ys.length) (hh : ∀ i, i < xs.length → xs.getD i ByteArray.empty = ys.getD i ByteArray.empty) : xs = ys := by
  apply List.ext_getElem h
  intro i h1 h2
  have := hh i h1
  simpa [h1, h2] using this
set_option maxRecDepth 100000 in
set_option maxHeartbeats 1000000 in
theorem eqStrings (u v : Value) (xs ys : List ByteArray) (w : World) (hu : Ss w u (fun i => xs.getD i ByteArray.empty) xs.length) (hv : Ss w v (fun i => ys.getD i ByteArray.empty) ys.length) :
    Calls Try.prog 44 #[u, v] w fun r w' => r = .returned (.bool (decide (xs = ys))) ∧ Below w.heap.size w w' := by
  obtain ⟨l1, -, a1, c1, rfl, h1⟩ := hu
  obtain ⟨l2, -, a2, c2, rfl, h2⟩ := hv
  unfold maxLen at l1 l2
  have H1 : Hid (∀ i, i < xs.length → ∃ b off, a1 = some ⟨b, off, none⟩ ∧ w.cell? ⟨b, off + i, none⟩ = some (cS (xs.getD i ByteArray.empty))) := h1
  have H2 : Hid (∀ i, i < ys.length → ∃ b off, a2 = some ⟨b, off, none⟩ ∧ w.cell? ⟨b, off + i, none⟩ = some (cS (ys.getD i ByteArray.empty))) := h2
  clear h1 h2
  by_cases hl : xs.length = ys.length
  · have hl' : ((xs.length : Int) != (ys.length : Int)) = false := by rw [bne_eq_false_iff_eq]; omega
    have HL : Hid (xs.length = ys.length) := hl
    clear hl
    go_enter Try.func44, Try.ntmps44
    go_wp2_with fail
    go_loopw [5] (fun i wr => ∃ k : Nat, k ≤ xs.length ∧ i = .int .i64 (k : Int) ∧ (∀ j, j < k → xs.getD j ByteArray.empty = ys.getD j ByteArray.empty) ∧ Below w.heap.size w wr) (fun i _ => xs.length - (intOf i).toNat)
    case atStart => exact ⟨0, by omega, rfl, fun j hj => absurd hj (by omega), Below.refl _ _⟩
    case round =>
      obtain ⟨k, hk, rfl, hall, hb⟩ := hrel
      have HAll : Hid (∀ j, j < k → xs.getD j ByteArray.empty = ys.getD j ByteArray.empty) := hall
      clear hall
      by_cases hlt : k < xs.length
      · have hlt' : (k : Int) < (xs.length : Int) := by omega
        have hlt2 : k < ys.length := by have := HL.out; omega
        have hlt2' : (k : Int) < (ys.length : Int) := by omega
        obtain ⟨b, off, rfl, hc⟩ := H1.out k hlt
        obtain ⟨b', off', rfl, hc'⟩ := H2.out k hlt2
        replace hc := (hb.cell (cell_lt' hc)).trans hc
        replace hc' := (hb.cell (cell_lt' hc')).trans hc'
        by_cases he : xs.getD k ByteArray.empty = ys.getD k ByteArray.empty
        · have HE : Hid (xs.getD k ByteArray.empty = ys.getD k ByteArray.empty) := he
          rw [he] at hc
          generalize ys.getD k ByteArray.empty = y at hc hc'
          clear he
          have hq : (y.toList == y.toList) = true := beq_self_eq_true _
          go_upto_region 6 with fail
          go_quiet (fail)
          go_wp2_with fail
          go_roundw
          case rel =>
            refine ⟨k + 1, by omega, by go_num, fun j hj => ?_, bdrewN hb _⟩
            rcases Nat.lt_or_ge j k with h | h
            · exact HAll.out j h
            · obtain rfl : j = k := by omega
              exact HE.out
          case measure => simp [intOf]; omega
        · have HN : Hid (decide (xs = ys) = false) := decide_eq_false fun h => he (by rw [h])
          generalize xs.getD k ByteArray.empty = x at hc he
          generalize ys.getD k ByteArray.empty = y at hc' he
          have hq : (x.toList == y.toList) = false := by rw [beq_eq_false_iff_ne]; exact fun h => he (bytes_inj h)
          clear he
          go_upto_region 6 with fail
          go_quiet (fail)
          go_wp2_with fail
          go_ret
          exact ⟨by rw [HN.out]; rfl, bdrewN hb _⟩
      · have hlt' : ¬ (k : Int) < (xs.length : Int) := by omega
        have HN : Hid (decide (xs = ys) = true) := decide_eq_true (eqStrings_ext xs ys HL.out fun j hj => HAll.out j (by omega))
        go_wp2_with fail
        go_ret
        exact ⟨by rw [HN.out]; rfl, hb⟩
  · have hl' : ((xs.length : Int) != (ys.length : Int)) = true := by rw [bne_iff_ne]; omega
    have HN : Hid (decide (xs = ys) = false) := decide_eq_false fun h => hl (by rw [h])
    clear hl
    go_enter Try.func44, Try.ntmps44
    go_wp2_with fail
    go_ret
    exact ⟨by rw [HN.out]; rfl, Below.refl _ _⟩
end Go.Proofs.Ytapjonmgjccpbaa
end
section
set_option linter.unusedSimpArgs false
set_option linter.unusedVariables false
namespace Go.Proofs.Ytapjonmgjccpbaa
open Go.RowKit
theorem all_range_int : ∀ (xs ys : List Int), xs.length = ys.length → ((List.range xs.length).all fun i => xs.getD i 0 == ys.getD i 0) = (xs == ys)
  | [], [], _ => rfl
  | x :: xs, y :: ys, h => by
    have ih := all_range_int xs ys (by simpa using h)
    rw [List.length_cons, List.range_succ_eq_map, List.all_cons, List.all_map]
    rw [List.cons_beq_cons, ← ih]
    rfl
  | [], _ :: _, h => by simp at h
  | _ :: _, [], h => by simp at h
theorem run_equalIn_u64s {P : Program} (w : World) (d : Nat) (t e : TypeId) (n : Nat) (ht : P.underlying t = some (.array n e)) (he : P.underlying e = some (.int .u64)) (hsz : ∀ w, (sizeOf e).run P w = .ok 1 w)
    (xs ys : List Int) (hx : xs.length = n) (hy : ys.length = n) :
    (Op.equalIn (d + 2) t (.agg (xs.map (Value.int .u64)).toArray) (.agg (ys.map (Value.int .u64)).toArray)).run P w = .ok (xs == ys) w := by
  rw [← all_range_int xs ys (hx.trans hy.symm), hx, List.range_eq_range', Op.equalIn]
  simp only [Sem.run_bind, run_underlying ht, Result.andThen_ok, hsz, Std.Legacy.Range.forIn_eq_forIn_range', Std.Legacy.Range.size, Nat.sub_zero, Nat.add_sub_cancel, Nat.div_one]
  have hl : ∀ i ∈ List.range' 0 n 1, i < n := fun i hi => by simpa using (List.mem_range'_1.1 hi).2
  generalize List.range' 0 n 1 = l at hl ⊢
  induction l with
  | nil => simp
  | cons i l ih =>
    have hi : i < n := hl i (by simp)
    have px : (part e (xs.map (Value.int .u64)).toArray (i * 1)).run P w = .ok (.int .u64 (xs.getD i 0)) w := by
      simp [part, isAgg, run_underlying he, List.getD, List.getElem?_eq_getElem (show i < xs.length by omega)]
    have py : (part e (ys.map (Value.int .u64)).toArray (i * 1)).run P w = .ok (.int .u64 (ys.getD i 0)) w := by
      simp [part, isAgg, run_underlying he, List.getD, List.getElem?_eq_getElem (show i < ys.length by omega)]
    have pe : (Op.equalIn (d + 1) e (.int .u64 (xs.getD i 0)) (.int .u64 (ys.getD i 0))).run P w = .ok (xs.getD i 0 == ys.getD i 0) w :=
      run_equalIn_int w d e .u64 .u64 _ _ he
    simp only [List.forIn_cons, Sem.run_bind, px, py, pe, Result.andThen_ok, List.all_cons]
    cases hb : (xs.getD i 0 == ys.getD i 0)
    · simp
    · simp only [Bool.not_true, Bool.false_eq_true, if_false, Sem.run_pure, Result.andThen_ok, Bool.true_and]
      exact ih fun j hj => hl j (by simp [hj])
theorem size24 (w : World) : (sizeOf 24).run Try.prog w = .ok 1 w := by kernel_rfl
def eq4 (x0 x1 x2 x3 y0 y1 y2 y3 : Int) : Bool := [x0, x1, x2, x3] == [y0, y1, y2, y3]
theorem eql26 (x0 x1 x2 x3 y0 y1 y2 y3 : Int) (w : World) : (binOp .eql 26 (.agg (A4 x0 x1 x2 x3)) (.agg (A4 y0 y1 y2 y3))).run Try.prog w = .ok (.bool (eq4 x0 x1 x2 x3 y0 y1 y2 y3)) w := by
  rw [run_eql_struct]
  have h := run_equalIn_u64s (P := Try.prog) w 9998 26 24 4 Try.underlying26 Try.underlying24 size24 [x0, x1, x2, x3] [y0, y1, y2, y3] rfl rfl
  simp only [List.map_cons, List.map_nil] at h
  rw [h]
  rfl
theorem neq26 (x0 x1 x2 x3 y0 y1 y2 y3 : Int) (w : World) : (binOp .neq 26 (.agg (A4 x0 x1 x2 x3)) (.agg (A4 y0 y1 y2 y3))).run Try.prog w = .ok (.bool (!eq4 x0 x1 x2 x3 y0 y1 y2 y3)) w := by
  rw [run_neq_struct]
  have h := run_equalIn_u64s (P := Try.prog) w 9998 26 24 4 Try.underlying26 Try.underlying24 size24 [x0, x1, x2, x3] [y0, y1, y2, y3] rfl rfl
  simp only [List.map_cons, List.map_nil] at h
  rw [h]
  rfl
theorem eq4_same (x0 x1 x2 x3 : Int) : eq4 x0 x1 x2 x3 x0 x1 x2 x3 = true := by simp [eq4]
theorem eq4_V (n m : Nat) (hn : n < M256) (hm : m < M256) : eq4 (lb n 0) (lb n 1) (lb n 2) (lb n 3) (lb m 0) (lb m 1) (lb m 2) (lb m 3) = decide (n = m) := by
  have a := lb_val n hn
  have b := lb_val m hm
  by_cases e : n = m
  · subst e; simp [eq4]
  · have : ¬ (lb n 0 = lb m 0 ∧ lb n 1 = lb m 1 ∧ lb n 2 = lb m 2 ∧ lb n 3 = lb m 3) := by
      rintro ⟨h0, h1, h2, h3⟩
      rw [h0, h1, h2, h3] at a
      omega
    simp only [eq4, e, decide_false, beq_eq_false_iff_ne, ne_eq, List.cons.injEq, and_true]; exact this
theorem eql26V (n m : Nat) (hn : n < M256) (hm : m < M256) (w : World) : (binOp .eql 26 (V n) (V m)).run Try.prog w = .ok (.bool (decide (n = m))) w := by
  rw [V, V, eql26, eq4_V n m hn hm]
theorem eql26_0 (n : Nat) (hn : n < M256) (w : World) : (binOp .eql 26 (V n) (.agg (A4 0 0 0 0))).run Try.prog w = .ok (.bool (decide (n = 0))) w := by
  rw [← V_zero, eql26V n 0 hn (by decide)]
theorem neq26V (n m : Nat) (hn : n < M256) (hm : m < M256) (w : World) : (binOp .neq 26 (V n) (V m)).run Try.prog w = .ok (.bool (!decide (n = m))) w := by
  rw [V, V, neq26, eq4_V n m hn hm]
theorem neq26_0 (n : Nat) (hn : n < M256) (w : World) : (binOp .neq 26 (V n) (.agg (A4 0 0 0 0))).run Try.prog w = .ok (.bool (!decide (n = 0))) w := by
  rw [← V_zero, neq26V n 0 hn (by decide)]
end Go.Proofs.Ytapjonmgjccpbaa
end

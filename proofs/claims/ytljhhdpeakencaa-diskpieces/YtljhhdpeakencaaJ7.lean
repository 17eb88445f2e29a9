/- Texts joined: PkY PkM Wi9 Cw9 Cn9 By9 Wr9 EqC Cc9 Inv9 PgN0. -/
import Derived.Test.YtljhhdpeakencaaPkX
section
set_option linter.unusedSimpArgs false
set_option linter.unusedVariables false
namespace Go.Proofs.Ytljhhdpeakencaa
open Go.RowKit

/-! The pieces of a write, one behind the other, are the write. -/
theorem pad_drop (r : List UInt8) (m : Nat) : (pad r m).drop m = r.drop m := by
  unfold pad
  rw [List.drop_append]
  simp
theorem pad_take {r : List UInt8} {m a : Nat} (ha : a ≤ r.length) : (pad r m).take a = r.take a := by
  unfold pad
  exact List.take_append_of_le_length ha
theorem splice_eq {r b : List UInt8} {a : Nat} (ha : a ≤ r.length) : splice (pad r (a + b.length)) a b = r.take a ++ b ++ r.drop (a + b.length) := by
  unfold splice
  rw [pad_drop, pad_take ha]
  first | rfl | rw [List.append_assoc] | rw [← List.append_assoc]
theorem fld_pcs {a : Nat} {bs r : List UInt8} (ha : a ≤ r.length) : ∀ fuel k, bs.length - k ≤ fuel → k ≤ bs.length → fld ((pcs a bs.length k).map (pch a bs)) (r.take a ++ bs.take k ++ r.drop (a + k)) = r.take a ++ bs ++ r.drop (a + bs.length)
  | 0, k, h, hk => by
    obtain rfl : k = bs.length := by omega
    rw [pcs_nil (by omega), List.take_length]
    rfl
  | fuel + 1, k, h, hk => by
    by_cases hlt : k < bs.length
    · have h1 := pcn_pos (a := a) hlt
      have h2 := pcn_le (a := a) hlt
      rw [pcs_cons hlt]
      generalize pcn a bs.length k = n at *
      have e1 : ((bs.drop k).take n).length = n := by simp; omega
      have e2 : (r.take a ++ bs.take k).length = a + k := by simp; omega
      have st : ovr (pch a bs (k, n)) (r.take a ++ bs.take k ++ r.drop (a + k)) = r.take a ++ bs.take (k + n) ++ r.drop (a + (k + n)) := by
        rw [ovr_piece (by rfl)]
        show splice (pad _ (a + k + ((bs.drop k).take n).length)) (a + k) ((bs.drop k).take n) = _
        rw [splice_eq (by simp; omega), e1]
        have e3 : (r.take a ++ bs.take k ++ r.drop (a + k)).take (a + k) = r.take a ++ bs.take k := by
          rw [List.take_append_of_le_length (by omega), ← e2, List.take_length]
        have e4 : (r.take a ++ bs.take k ++ r.drop (a + k)).drop (a + k + n) = r.drop (a + (k + n)) := by
          rw [List.drop_append, List.drop_eq_nil_of_le (by omega), e2, List.drop_drop, List.nil_append]
          congr 1
          omega
        rw [e3, e4, List.append_assoc (r.take a), ← List.take_add]
      show fld ((pcs a bs.length (k + n)).map (pch a bs)) (ovr (pch a bs (k, n)) _) = _
      rw [st]
      exact fld_pcs ha fuel (k + n) (by omega) (by omega)
    · obtain rfl : k = bs.length := by omega
      rw [pcs_nil (by omega), List.take_length]
      rfl
theorem upd_self {α : Type} (f : Nat → α) (i : Nat) : upd f i (f i) = f := by
  funext j
  unfold upd
  split
  · next e => rw [e]
  · rfl
theorem wrL_eq (i a : Nat) (bs : List UInt8) (xs : List (Nat × Nat)) : ∀ D : Ds, wrL D i a bs xs = { D with now := upd D.now i (fld (xs.map (pch a bs)) (D.now i)), chs := upd D.chs i (D.chs i ++ xs.map (pch a bs)) } := by
  induction xs with
  | nil =>
    intro D
    show D = { D with now := upd D.now i (D.now i), chs := upd D.chs i (D.chs i ++ []) }
    rw [List.append_nil, upd_self, upd_self]
  | cons x xs ih =>
    intro D
    show wrL (chg D i (pch a bs x)) i a bs xs = _
    rw [ih]
    unfold chg
    simp only [upd_same, upd_upd, List.map_cons, List.append_assoc, List.cons_append, List.nil_append]
    rfl
/-- What the program's write makes of a disk is what the page's makes. -/
theorem wr_page {D : Ds} {i a : Nat} {bs : List UInt8} (ha : a ≤ (D.now i).length) : wrL D i a bs (pcs a bs.length 0) = pwD D i a bs (pcs a bs.length 0) := by
  rw [wrL_eq]
  unfold pwD
  have h := fld_pcs (bs := bs) ha bs.length 0 (by omega) (by omega)
  rw [List.take_zero, List.append_nil, Nat.add_zero, List.take_append_drop] at h
  rw [h, splice_eq ha]
end Go.Proofs.Ytljhhdpeakencaa
end
section
set_option linter.unusedSimpArgs false
set_option linter.unusedVariables false
namespace Go.Proofs.Ytljhhdpeakencaa
open Go.RowKit

/-! The page's May. -/
def mayB (ls : List (List UInt8)) : Bool := decide (ls.length = 0 ∨ ls.length = 8) && decide (∀ l ∈ ls, l.length ≤ 131072)
set_option maxRecDepth 100000 in
set_option maxHeartbeats 1000000 in
theorem pmay (w : World) (v : Value) (ls : List (List UInt8)) (h : Rl w v ls) :
    Calls Try.prog 25 #[v] w fun e w' => e = .returned (.bool (mayB ls)) ∧ w' = w := by
  obtain ⟨ad, cap, rfl, hcap, hmax, hc⟩ := h
  have HC : Hid _ := hc
  clear hc
  obtain ⟨b, hb⟩ : ∃ b, b = mayB ls := ⟨_, rfl⟩
  rw [← hb]
  have Hb : Hid (b = mayB ls) := hb
  obtain ⟨n, hn⟩ : ∃ n, n = ls.length := ⟨_, rfl⟩
  have Hn : Hid (n = ls.length) := hn
  rw [← hn] at hcap hmax ⊢
  clear hb
  by_cases hl : n = 0 ∨ n = 8
  · have HL : Hid (n = 0 ∨ n = 8) := hl
    have hg : ((n : Int) != 0) = false ∨ ((n : Int) != 8) = false := by
      rcases hl with e | e
      · left; rw [e]; rfl
      · right; rw [e]; rfl
    clear hn hl
    by_cases n0 : ((n : Int) != 0) = true
    all_goals
      have hg2 : ((n : Int) != 0) = false ∨ ((n : Int) != 8) = false := hg
      first
        | (have n8 : ((n : Int) != 8) = false := by rcases hg with e | e; (rw [n0] at e; cases e); exact e)
        | (have n0 : ((n : Int) != 0) = false := by simpa using n0)
      clear hg hg2
      go_enter Try.func25, Try.ntmps25
      go_wp2_with fail
      go_loopw [3] (fun i wr => ∃ k : Nat, k ≤ n ∧ i = .int .i64 (k : Int) ∧ (∀ j (hj : j < ls.length), j < k → ls[j].length ≤ 131072) ∧ wr = w) (fun i _ => n - (intOf i).toNat)
      case atStart => exact ⟨0, by omega, rfl, fun j _ h => by omega, rfl⟩
      case round =>
        obtain ⟨k, hk, rfl, hs, e9⟩ := hrel
        have e9 := e9.symm
        subst e9
        have HS : Hid (∀ j (hj : j < ls.length), j < k → ls[j].length ≤ 131072) := hs
        clear hs
        by_cases hlt : k < n
        · have hlt' : (k : Int) < (n : Int) := by omega
          have hkl : k < ls.length := by have := Hn.out; omega
          obtain ⟨g, off, rv, e0, hcell, hrb⟩ := HC.out k hkl
          subst e0
          obtain ⟨ra, rc, e1, h9⟩ := hrb
          clear h9
          subst e1
          have HE : Hid (131072 < ls[k].length → b = false) := fun h => by
            rw [Hb.out]
            unfold mayB
            rw [Bool.and_eq_false_iff]
            right
            exact decide_eq_false (fun h9 => by have := h9 _ (List.getElem_mem hkl); omega)
          have HN : Hid (ls[k].length ≤ 131072 → ∀ j (hj : j < ls.length), j < k + 1 → ls[j].length ≤ 131072) := fun h j hj hjk => by
            by_cases e : j = k
            · subst e; exact h
            · exact HS.out j hj (by omega)
          generalize ls[k].length = m at *
          by_cases hm : 131072 < m
          · have hm' : (131072 : Int) < (m : Int) := by omega
            go_wp2_with fail
            go_ret
            exact ⟨by rw [HE.out hm]; rfl, rfl⟩
          · have hm' : ¬ (131072 : Int) < (m : Int) := by omega
            go_wp2_with fail
            go_roundw
            case rel => exact ⟨k + 1, by omega, by go_num, HN.out (by omega), by first | trivial | rfl⟩
            case measure => simp [intOf]; omega
        · have hlt' : ¬ (k : Int) < (n : Int) := by omega
          have hB : b = true := by
            rw [Hb.out]
            unfold mayB
            rw [Bool.and_eq_true]
            refine ⟨decide_eq_true (by rw [← Hn.out]; exact HL.out), decide_eq_true (fun l hl => ?_)⟩
            obtain ⟨j, hj, rfl⟩ := List.getElem_of_mem hl
            exact HS.out j hj (by have := Hn.out; omega)
          have HB : Hid (b = true) := hB
          clear hB
          go_wp2_with fail
          go_ret
          exact ⟨by rw [HB.out]; rfl, rfl⟩
  · have n0 : ((n : Int) != 0) = true := by rw [bne_iff_ne]; omega
    have n8 : ((n : Int) != 8) = true := by rw [bne_iff_ne]; omega
    have HE : Hid (b = false) := by
      show b = false
      rw [Hb.out]
      unfold mayB
      rw [Bool.and_eq_false_iff]
      left
      exact decide_eq_false (by rw [← hn]; exact hl)
    clear hn hl
    go_enter Try.func25, Try.ntmps25
    go_wp2
    go_ret
    exact ⟨by rw [HE.out]; rfl, rfl⟩
end Go.Proofs.Ytljhhdpeakencaa
end
section
set_option linter.unusedSimpArgs false
set_option linter.unusedVariables false
namespace Go.Proofs.Ytljhhdpeakencaa
open Go.RowKit

/-! tarnlaw0.Within. -/
theorem within9 (i : Int) (n : Nat) (hn : 0 < n) (hn2 : n ≤ 9223372036854775807) (w : World) :
    Calls Try.prog 29 #[.int .i64 i, .int .i64 (n : Int)] w fun e w' => (∃ k : Nat, k < n ∧ e = .returned (.int .i64 (k : Int))) ∧ w' = w := by
  have hw : IntKind.u64.wrap (n : Int) = n := by rw [IntKind.wrap_u64]; omega
  have h0 : ¬ (n : Int) = 0 := by omega
  have h1 : ((n : Int) == 0) = false := by simp; omega
  obtain ⟨j, hj⟩ : ∃ j : Nat, IntKind.u64.wrap i = (j : Int) := by
    refine ⟨(IntKind.u64.wrap i).toNat, ?_⟩
    rw [IntKind.wrap_u64]; omega
  have HN : Hid (0 < n ∧ n ≤ 9223372036854775807) := ⟨hn, hn2⟩
  clear hn hn2
  go_enter Try.func29, Try.ntmps29
  go_wp2
  go_ret
  have hl : j % n < n := Nat.mod_lt _ HN.out.1
  refine ⟨⟨j % n, hl, ?_⟩, rfl⟩
  have e : wrap64 ((j : Int) % (n : Int)) = ((j % n : Nat) : Int) := by
    have := HN.out.2
    rw [← Int.natCast_emod]
    generalize j % n = r at *
    unfold wrap64; omega
  rw [← e]
  rfl
end Go.Proofs.Ytljhhdpeakencaa
end
section
set_option linter.unusedSimpArgs false
set_option linter.unusedVariables false
namespace Go.Proofs.Ytljhhdpeakencaa
open Go.RowKit

/-! tarnlaw0.CellsWeight: what is not heavy has small rows. -/
set_option maxRecDepth 100000 in
set_option maxHeartbeats 1000000 in
theorem cellsW (w : World) (v : Value) (ls : List (List UInt8)) (h : Rl w v ls) (hn : ls.length ≤ 1099511627776) (hs : ∀ l ∈ ls, l.length ≤ 1099511627776) :
    Calls Try.prog 73 #[v] w fun e w' => (∃ N : Nat, e = .returned (.int .i64 (N : Int)) ∧ N ≤ 2199024304128 ∧ (N ≤ 8000 → ls.length ≤ 8000 ∧ ∀ l ∈ ls, l.length ≤ 8000)) ∧ w' = w := by
  obtain ⟨ad, cap, rfl, hcap, hmax, hc⟩ := h
  have HC : Hid _ := hc
  have HSm : Hid (∀ l ∈ ls, l.length ≤ 1099511627776) := hs
  clear hc hs
  obtain ⟨n, hnl⟩ : ∃ n, n = ls.length := ⟨_, rfl⟩
  have Hn : Hid (n = ls.length) := hnl
  rw [← hnl] at hcap hmax hn ⊢
  clear hnl
  go_enter Try.func73, Try.ntmps73
  go_wp2_with fail
  go_loopw [3, 4] (fun x i wr => ∃ k N : Nat, k ≤ n ∧ i = .int .i64 (k : Int) ∧ x = .int .i64 (N : Int) ∧ n ≤ N ∧ N ≤ 2199024304128 ∧ (∀ j (hj : j < ls.length), j < k → ls[j].length ≤ N) ∧ wr = w) (fun _ i _ => n - (intOf i).toNat)
  case atStart => exact ⟨0, n, by omega, rfl, rfl, Nat.le_refl _, by omega, fun j _ h => by omega, rfl⟩
  case round =>
    obtain ⟨k, N, hk, rfl, rfl, hnN, hN, hs, e9⟩ := hrel
    have e9 := e9.symm
    subst e9
    have HS : Hid (∀ j (hj : j < ls.length), j < k → ls[j].length ≤ N) := hs
    clear hs
    by_cases hlt : k < n
    · have hlt' : (k : Int) < (n : Int) := by omega
      by_cases hb : N < 1048576
      · have hb' : (N : Int) < 1048576 := by omega
        have hkl : k < ls.length := by have := Hn.out; omega
        obtain ⟨g, off, rv, e0, hcell, hrb⟩ := HC.out k hkl
        subst e0
        obtain ⟨ra, rc, e1, h9⟩ := hrb
        clear h9
        subst e1
        have hm : ls[k].length ≤ 1099511627776 := HSm.out _ (List.getElem_mem hkl)
        have HN : Hid (∀ j (hj : j < ls.length), j < k + 1 → ls[j].length ≤ N + ls[k].length) := fun j hj hjk => by
          by_cases e : j = k
          · subst e; omega
          · have := HS.out j hj (by omega); omega
        generalize ls[k].length = m at *
        have hw : IntKind.i64.wrap ((N : Int) + (m : Int)) = (N : Int) + (m : Int) := IntWalk.i64_in _ (by omega)
        go_wp2_with fail
        go_roundw
        case rel => exact ⟨k + 1, N + m, by omega, by go_num, by go_num, by omega, by omega, HN.out, by first | trivial | rfl⟩
        case measure => simp [intOf]; omega
      · have hb' : ¬ (N : Int) < 1048576 := by omega
        go_wp2_with fail
        go_ret
        exact ⟨⟨N, rfl, hN, fun h => by omega⟩, rfl⟩
    · have hlt' : ¬ (k : Int) < (n : Int) := by omega
      go_wp2_with fail
      go_ret
      refine ⟨⟨N, rfl, hN, fun h => ⟨by omega, fun l hl => ?_⟩⟩, rfl⟩
      obtain ⟨j, hj, rfl⟩ := List.getElem_of_mem hl
      have := HS.out j hj (by have := Hn.out; omega)
      omega
end Go.Proofs.Ytljhhdpeakencaa
end
section
set_option linter.unusedSimpArgs false
set_option linter.unusedVariables false
namespace Go.Proofs.Ytljhhdpeakencaa
open Go.RowKit

/-! tarnref0.CopyNumbers. -/
theorem infoInt : (Try.prog.info? 3).map (fun i => (i.zero, i.size, i.bytes)) = some (some (Value.int .i64 0), 1, 8) := by kernel_rfl
abbrev icells (l : List Int) : List Value := l.map (fun z => Value.int .i64 z)
abbrev Oi (w : World) (base : Nat) (v : Value) (l : List Int) : Prop := w.ownsRow base 3 1 v l.length (icells l)
theorem Oi.rp {w : World} {base : Nat} {v : Value} {l : List Int} (h : Oi w base v l) (hm : l.length ≤ 9223372036854775807) (hb : ∀ p ∈ l, -9223372036854775808 ≤ p ∧ p ≤ 9223372036854775807) : Rp w v l := by
  have h' := h
  rcases h.2 with ⟨rfl, hz⟩ | ⟨g, c, cur, rfl, _, _, hle, _⟩
  · exact ⟨none, 0, by rw [hz], by omega, hm, hb, fun i hi => by omega⟩
  · refine ⟨_, c, rfl, hle, hm, hb, fun i hi => ⟨g, 0, rfl, ?_⟩⟩
    rw [Nat.zero_add, World.ownsRow.cellAt h' i (by omega)]
    simp [icells, hi]
set_option maxRecDepth 100000 in
set_option maxHeartbeats 1000000 in
theorem copyNums (w : World) (v : Value) (l : List Int) (h : Rp w v l) (hn : l.length ≤ 1099511627776) :
    Calls Try.prog 45 #[v] w fun e w' => ∃ u, e = .returned u ∧ Oi w' w.heap.size u l ∧ Below w.heap.size w w' := by
  obtain ⟨ad, cap, rfl, hle, hm, _, hat⟩ := h
  obtain ⟨i0, hi, hz0, hz1, hz2⟩ := info_of infoInt
  have HA : Hid (∀ i (h : i < l.length), ∃ b off, ad = some ⟨b, off, none⟩ ∧ w.cell? ⟨b, off + i, none⟩ = some (.int .i64 l[i])) := hat
  obtain ⟨n, hnl⟩ : ∃ n, n = l.length := ⟨_, rfl⟩
  have Hnl : Hid (n = l.length) := hnl
  rw [← hnl] at hle hm hn ⊢
  clear hat hnl
  go_enter Try.func45, Try.ntmps45
  go_wp2_with fail
  go_loopw [3, 4] (fun u i wr => ∃ (k : Nat), k ≤ n ∧ i = .int .i64 (k : Int) ∧ Oi wr w.heap.size u (l.take k) ∧ Below w.heap.size w wr) (fun _ i _ => n - (intOf i).toNat)
  case atStart => exact ⟨0, by omega, rfl, World.ownsRow_nil _ _ _ 1, Below.refl _ _⟩
  case round =>
    obtain ⟨k, hk, rfl, hown, hbl⟩ := hrel
    have hsz2 := hbl.size
    obtain ⟨ad2, n2, cap2, rfl⟩ := ownsRow_sl hown
    by_cases hlt : k < n
    · have hlt' : (k : Int) < (n : Int) := by omega
      have hkl : k < l.length := by have := Hnl.out; omega
      obtain ⟨b, off, rfl, hc⟩ := HA.out k hkl
      have hc := (hbl.cell (cell_lt hc)).trans hc
      have HST : Hid (icells (l.take (k + 1)) = icells (l.take k) ++ [.int .i64 l[k]]) := by show icells (l.take (k + 1)) = _; rw [List.take_succ_eq_append_getElem hkl]; exact List.map_append
      have HL1 : Hid ((l.take (k + 1)).length = k + 1) := by show _ = _; simp; omega
      have hl : (l.take k).length = k := by simp; omega
      have HO : Hid (Oi wr w.heap.size (.slice ad2 n2 cap2) (l.take k)) := hown
      have hown : wr.ownsRow w.heap.size 3 1 (.slice ad2 n2 cap2) (l.take k).length (icells (l.take k)) := hown
      rw [hl] at hown
      generalize l[k] = y at *
      clear hl
      go_wp2_with (at_builtin; refine wpList_append_own _ rfl _ _ 38 rfl w.heap.size 3 i0 (.int .i64 0) 1 8 Try.underlying38 hi hz0 hz1 hz2 rfl (by decide) _ k _ rfl (hown.alloc _) ⟨wr.heap.size, 0, none⟩ 1 1 [.int .i64 y] rfl rfl (cell_one_new _ _ _) (by simp [Value.oneCell']) (by unfold maxLen; omega) (by omega) (by simp; omega) ?_; intro v1 w1 hown1 hgrow1 hnil1)
      go_roundw
      case rel =>
        refine ⟨k + 1, by omega, by go_num, ?_, ?_⟩
        · show w1.ownsRow _ _ 1 _ _ _
          rw [HST.out, HL1.out]
          exact hown1
        · exact (hbl.alloc hsz2 _).grown hgrow1 (by simp; omega) (fun j hj => (HO.out.lt j hj).1)
      case measure => simp [intOf]; omega
    · have hlt' : ¬ (k : Int) < (n : Int) := by omega
      obtain rfl : k = n := by omega
      have hown : Oi wr w.heap.size (.slice ad2 n2 cap2) l := by
        have := hown
        rw [Hnl.out, List.take_length] at this
        exact this
      have HO : Hid (Oi wr w.heap.size (.slice ad2 n2 cap2) l) := hown
      clear hown
      go_wp2_with fail
      go_ret
      exact ⟨_, rfl, HO.out, hbl⟩
end Go.Proofs.Ytljhhdpeakencaa
end
section
set_option linter.unusedSimpArgs false
set_option linter.unusedVariables false
namespace Go.Proofs.Ytljhhdpeakencaa
open Go.RowKit

/-! tarnlaw0.Bytes: what is spoilt is one's own. -/
theorem xor_u8 (y : UInt8) : Go.bits BinOp.xor IntKind.u8 (y.toNat : Int) 85 = ((y ^^^ 85).toNat : Int) := by
  have h := y.toNat_lt
  have e : (y ^^^ 85).toNat = y.toNat ^^^ 85 := by rw [UInt8.toNat_xor]; rfl
  have hx : y.toNat ^^^ 85 < 256 := Nat.xor_lt_two_pow (n := 8) h (by omega)
  rw [e]
  generalize y.toNat = m at *
  unfold Go.bits
  simp [IntKind.wrap, Int.emod_eq_of_lt]
  have h1 : m % 2 ^ IntKind.u8.bits = m := Nat.mod_eq_of_lt h
  have h2 : 85 % 2 ^ IntKind.u8.bits = 85 := rfl
  rw [h1, h2]
  generalize m ^^^ 85 = q at *
  rw [if_neg (by intro h9; exact absurd h9.1 (by decide))]
  show (q : Int) % 256 = q
  omega
theorem grown_set {w wr : World} {g k : Nat} {v : Value} (hg : w.grownBy wr (some g)) : w.grownBy (wr.setCell ⟨g, k, none⟩ v) (some g) :=
  ⟨hg.os, hg.tape, hg.output, by simp; exact hg.size, fun b hb hne => (Below.heap_setCell wr ⟨g, k, none⟩ v b (fun e => hne (by have e : b = g := e; rw [e]))).trans (hg.block b hb hne)⟩
theorem grown_more {w wr w1 : World} {o : Obj} {row : Option Nat} (hg : w.grownBy wr row) (h : (wr.alloc o).grownBy w1 row) : w.grownBy w1 row :=
  ⟨h.os.trans hg.os, h.tape.trans hg.tape, h.output.trans hg.output, by have h1 := hg.size; have h2 := h.size; simp at h2; omega, fun b hb hne => (h.block b (by have := hg.size; simp; omega) hne).trans ((Below.heap_alloc wr o b (by have := hg.size; omega)).trans (hg.block b hb hne))⟩
set_option maxRecDepth 100000 in
set_option maxHeartbeats 1000000 in
theorem spoil9 (w : World) (v : Value) (l : List UInt8) (h : Ow w 0 v l) (hn : l.length ≤ 1099511627776) :
    Calls Try.prog 35 #[v] w fun e w' => (∃ x, e = .returned x) ∧ w.grownBy w' v.ownBlock := by
  obtain ⟨ad, cap, rfl, hle⟩ := h.shape
  obtain ⟨i0, hi, hz0, hz1, hz2⟩ := info_of info8
  have H0 : Hid (Ow w 0 (.slice ad l.length cap) l) := h
  obtain ⟨n, hnl⟩ : ∃ n, n = l.length := ⟨_, rfl⟩
  have Hnl : Hid (n = l.length) := hnl
  rw [← hnl] at hle hn H0 ⊢
  clear hnl h
  go_enter Try.func35, Try.ntmps35
  go_wp2_with fail
  go_loopw [2] (fun i wr => ∃ (k : Nat) (l' : List UInt8), k ≤ n ∧ i = .int .i64 (k : Int) ∧ l'.length = n ∧ Ow wr 0 (.slice ad n cap) l' ∧ w.grownBy wr (Value.slice ad n cap).ownBlock) (fun i _ => n - (intOf i).toNat)
  case atStart => exact ⟨0, l, by omega, rfl, Hnl.out.symm, H0.out, World.grownBy.refl _ _⟩
  case round =>
    clear H0
    obtain ⟨k, l', hk, rfl, hl, hown, hg⟩ := hrel
    have HG : Hid (w.grownBy wr (Value.slice ad n cap).ownBlock) := hg
    have Hl : Hid (l'.length = n) := hl
    by_cases hlt : k < n
    · have hlt' : (k : Int) < (n : Int) := by omega
      have hkl : k < l'.length := by omega
      obtain ⟨g, rfl, _, hgl⟩ := hown.pos9 (by omega)
      have hc := hown.cell9 k hkl
      have hf := hown.frozen9 k
      have hx := hown.set9 k (l'[k] ^^^ 85)
      rw [← xor_u8] at hx
      have HX : Hid (Ow (wr.setCell ⟨g, k, none⟩ (.int .u8 (Go.bits BinOp.xor IntKind.u8 (l'[k].toNat : Int) 85))) 0 (.slice (some ⟨g, 0, none⟩) n cap) (l'.set k (l'[k] ^^^ 85))) := hx
      have HG2 : Hid (∀ v, w.grownBy (wr.setCell ⟨g, k, none⟩ v) (Value.slice (some ⟨g, 0, none⟩) n cap).ownBlock) := fun v => grown_set HG.out
      clear hown hl hx hg
      generalize l'[k] = y at *
      go_wp2_with fail
      go_roundw
      case rel => exact ⟨k + 1, l'.set k (y ^^^ 85), by omega, by go_num, by rw [List.length_set]; exact Hl.out, HX.out, HG2.out _⟩
      case measure => simp [intOf]; omega
    · have hlt' : ¬ (k : Int) < (n : Int) := by omega
      have hown : wr.ownsRow 0 5 1 (.slice ad n cap) l'.length (bc l') := hown
      rw [hl] at hown
      clear hl hg
      go_wp2_with (at_builtin; refine wpList_append_own _ rfl _ _ 37 rfl 0 5 i0 (.int .u8 0) 1 1 Try.underlying37 hi hz0 hz1 hz2 rfl (by decide) _ n _ rfl (hown.alloc _) ⟨wr.heap.size, 0, none⟩ 1 1 [.int .u8 5] rfl rfl (cell_one_new _ _ _) (by simp [Value.oneCell']) (by unfold maxLen; omega) (by omega) (by simp) ?_; intro v1 w1 hown1 hgrow1 hnil1)
      go_end0
      exact ⟨⟨_, rfl⟩, grown_more HG.out hgrow1⟩
end Go.Proofs.Ytljhhdpeakencaa
end
section
set_option linter.unusedSimpArgs false
set_option linter.unusedVariables false
namespace Go.Proofs.Ytljhhdpeakencaa
open Go.RowKit

/-! Write, whatever is written: the program's and the page's make the same of a disk. -/
theorem wrE_ok {D : Ds} {f at_ : Int} {bl : Nat} (hw : wrE D f at_ bl = 0) : cntE D f = 0 ∧ ∃ i a : Nat, f = (i : Int) ∧ i < 8 ∧ at_ = (a : Int) ∧ a ≤ (D.now i).length ∧ a + bl ≤ 131072 := by
  unfold wrE at hw
  by_cases h0 : cntE D f = 0
  · rw [if_neg (by rw [h0]; simp)] at hw
    obtain ⟨ho, i, rfl, hi, hp⟩ := cnt_ok (d := 0) h0
    rw [Int.toNat_natCast] at hw
    by_cases h1 : at_ < 0 ∨ ((D.now i).length : Int) < at_
    · rw [if_pos h1] at hw; omega
    · rw [if_neg h1] at hw
      by_cases h2 : 131072 - at_ < (bl : Int)
      · rw [if_pos h2] at hw; omega
      · exact ⟨h0, i, at_.toNat, rfl, hi, by omega, by omega, by omega⟩
  · rw [if_pos h0] at hw
    exact absurd hw h0
theorem write9 (w : World) (O : Nat → Nat) (d : Nat) (D : Ds) (nv sv cv : Nat → Value) (f at_ : Int) (ad : Option Addr) (bs : List UInt8) (bc : Nat) (h : DK w O d D nv sv cv) (hl : ∀ i, i < 8 → (D.now i).length ≤ 131072) (hm : ∀ i, i < 8 → (D.chs i).length ≤ 1099511496704) (hbl : bs.length ≤ 9223372036854775807)
    (hb : Rb w (.slice ad bs.length bc) bs) (hO : ∀ b n, ad = some ⟨b, n, none⟩ → O b = 0) :
    Calls Try.prog 50 #[.pointer (some ⟨d, 0, none⟩), .int .i64 f, .int .i64 at_, .slice ad bs.length bc] w fun e w' => e = .returned (.int .i64 (wrE D f at_ bs.length)) ∧ ∃ O' nv' sv' cv', DK w' O' d (wrD D f at_ bs) nv' sv' cv' ∧ Fp O w O' w' := by
  by_cases hw : wrE D f at_ bs.length = 0
  · obtain ⟨h0, i, a, rfl, hi, rfl, ha, hab⟩ := wrE_ok hw
    have e : wrD D (i : Int) (a : Int) bs = wrL (cnt D) i a bs (pcs a bs.length 0) := by unfold wrD; rw [if_pos hw, Int.toNat_natCast, Int.toNat_natCast]
    rw [e, hw]
    exact write_ok w O d i a D nv sv cv ad bs bc h hi h0 ha hab (hl i hi) (hm i hi) hb hO
  · have e : wrD D f at_ bs = cnt D := if_neg hw
    rw [e]
    exact write_no w O d D nv sv cv f at_ ad bs.length bc h hl hbl hw
theorem pwrite9 {w : World} {O : Nat → Nat} {d : Nat} {D : Ds} (f at_ : Int) (ad : Option Addr) (bs : List UInt8) (bc : Nat) (h : PKw w O d D) (bO : D.tO ≤ 9223372036854775807) (bF : D.tF ≤ 9223372036854775807) (hl : ∀ i, i < 8 → (D.now i).length ≤ 131072) (hm : ∀ i, i < 8 → (D.chs i).length ≤ 1099511496704) (hbl : bs.length ≤ 9223372036854775807)
    (hb : Rb w (.slice ad bs.length bc) bs) (hO : bs.length ≠ 0 → ∀ b n, ad = some ⟨b, n, none⟩ → O b = 0) :
    Calls Try.prog 51 #[.pointer (some ⟨d, 0, none⟩), .int .i64 f, .int .i64 at_, .slice ad bs.length bc] w fun e w' => e = .returned (.int .i64 (wrE D f at_ bs.length)) ∧ ∃ O', PKw w' O' d (wrD D f at_ bs) ∧ Fp O w O' w' := by
  obtain ⟨_, _, _, _, _, _, _, _, _, _, _, _, _, _, h⟩ := h
  by_cases hw : wrE D f at_ bs.length = 0
  · obtain ⟨h0, i, a, rfl, hi, rfl, ha, hab⟩ := wrE_ok hw
    have e : wrD D (i : Int) (a : Int) bs = pwD (cnt D) i a bs (pcs a bs.length 0) := by unfold wrD; rw [if_pos hw, Int.toNat_natCast, Int.toNat_natCast]; exact wr_page (D := cnt D) ha
    rw [e, hw]
    exact pwrite_ok h i a ad bs bc bO bF hi h0 ha hab (hl i hi) (hm i hi) hb hO
  · have e : wrD D f at_ bs = cnt D := if_neg hw
    rw [e]
    exact pwrite_no h f at_ ad bs.length bc bO bF hl hbl hw
end Go.Proofs.Ytljhhdpeakencaa
end
section
set_option linter.unusedSimpArgs false
set_option linter.unusedVariables false
namespace Go.Proofs.Ytljhhdpeakencaa
open Go.RowKit

/-! The page's EqCells. -/
set_option maxRecDepth 100000 in
set_option maxHeartbeats 1000000 in
theorem eqCells (w : World) (u v : Value) (l m : List (List UInt8)) (h : Rl w u l) (h' : Rl w v m) :
    Calls Try.prog 47 #[u, v] w fun e w' => e = .returned (.bool (decide (l = m))) ∧ Below w.heap.size w w' := by
  obtain ⟨ad, cap, rfl, hle, hm, hat⟩ := h
  obtain ⟨ad', cap', rfl, hle', hm', hat'⟩ := h'
  have HA : Hid (∀ i (h : i < l.length), ∃ b off rv, ad = some ⟨b, off, none⟩ ∧ w.cell? ⟨b, off + i, none⟩ = some rv ∧ Rb w rv l[i]) := hat
  have HA' : Hid (∀ i (h : i < m.length), ∃ b off rv, ad' = some ⟨b, off, none⟩ ∧ w.cell? ⟨b, off + i, none⟩ = some rv ∧ Rb w rv m[i]) := hat'
  clear hat hat'
  by_cases hl : l.length = m.length
  · have HV : Hid ((∀ i (h : i < l.length) (h' : i < m.length), l[i] = m[i]) → l = m) := fun h => List.ext_getElem hl (fun i h1 h2 => h i h1 h2)
    obtain ⟨b, hb⟩ : ∃ b : Bool, b = decide (l = m) := ⟨_, rfl⟩
    rw [← hb]
    have Hb : Hid (b = decide (l = m)) := hb
    obtain ⟨n, hnl⟩ : ∃ n, n = l.length := ⟨_, rfl⟩
    have Hn : Hid (n = l.length ∧ n = m.length) := ⟨hnl, by omega⟩
    rw [← hl, ← hnl]
    rw [← hnl] at hle hm
    clear hb hnl hle' hm'
    have hl : Hid (l.length = m.length) := hl
    go_enter Try.func47, Try.ntmps47
    go_wp2_with fail
    go_loopw [5] (fun i wr => ∃ (k : Nat), k ≤ n ∧ i = .int .i64 (k : Int) ∧ (∀ i (h : i < l.length) (h' : i < m.length), i < k → l[i] = m[i]) ∧ Below w.heap.size w wr) (fun i _ => n - (intOf i).toNat)
    case atStart => exact ⟨0, by omega, rfl, fun i _ _ h => by omega, Below.refl _ _⟩
    case round =>
      obtain ⟨k, hk, rfl, heq, hbl⟩ := hrel
      have HEq : Hid (∀ i (h : i < l.length) (h' : i < m.length), i < k → l[i] = m[i]) := heq
      clear heq
      by_cases hlt : k < n
      · have hlt' : (k : Int) < (n : Int) := by omega
        have hk1 : k < l.length := by have := Hn.out; omega
        have hk2 : k < m.length := by have := Hn.out; omega
        obtain ⟨b1, off1, rv1, e1, hc1, hr1⟩ := HA.out k hk1
        subst e1
        obtain ⟨b2, off2, rv2, e2, hc2, hr2⟩ := HA'.out k hk2
        subst e2
        have HC : Hid (Calls Try.prog 34 #[rv1, rv2] wr.drew fun e w' => e = .returned (.bool (decide (l[k] = m[k]))) ∧ Below wr.drew.heap.size wr.drew w') := eqBytes _ _ _ _ _ ((hr1.below hbl).below (Below.refl _ _).drew) ((hr2.below hbl).below (Below.refl _ _).drew)
        obtain ⟨ra1, rc1, x1, h91⟩ := hr1
        obtain ⟨ra2, rc2, x2, h92⟩ := hr2
        clear h91 h92
        have o1 : rv1.oneCell' = true := by rw [x1]; rfl
        have o2 : rv2.oneCell' = true := by rw [x2]; rfl
        clear x1 x2
        replace hc1 := (hbl.cell (cell_lt hc1)).trans hc1
        replace hc2 := (hbl.cell (cell_lt hc2)).trans hc2
        by_cases he : l[k] = m[k]
        · have HC : Hid (Calls Try.prog 34 #[rv1, rv2] wr.drew fun e w' => e = .returned (.bool true) ∧ Below wr.drew.heap.size wr.drew w') := by have := HC.out; rw [decide_eq_true he] at this; exact this
          have HN : Hid (∀ i (h : i < l.length) (h' : i < m.length), i < k + 1 → l[i] = m[i]) := fun i h h' hi => by
            by_cases e : i = k
            · subst e; exact he
            · exact HEq.out i h h' (by omega)
          clear he
          go_upto_region 6 with fail
          refine wp_region_noPanic ?_
          refine wp_region_held_drew (S := fun W' => W'.cell? ⟨b1, off1 + k, none⟩ = some rv1 ∧ W'.cell? ⟨b2, off2 + k, none⟩ = some rv2) (by kernel_rfl) ?_ (fun hHeld => ?_)
          · ((try dsimp only); exact ⟨hc1, hc2⟩)
          (try dsimp only at hHeld)
          refine wpAnyH_take (i := 0) (oi := ⟨some 17, _, _, _, _, _⟩) (v := ?_) rfl (by kernel_rfl) (by kernel_rfl) (by kernel_rfl) (fun _ _ _ h => h) (Or.inl ⟨by rfl, ?_⟩) (by assumption) ?_
          rotate_left
          · (intro w hSw; (try dsimp only at hSw); go_simp; try (with_reducible rfl))
          (try dsimp only); (try simp only [Act.put, List.setIfInBounds_toArray, List.set_cons_zero, List.set_cons_succ])
          refine wpAnyH_take (i := 1) (oi := ⟨some 18, _, _, _, _, _⟩) (v := ?_) rfl (by kernel_rfl) (by kernel_rfl) (by kernel_rfl) (fun _ _ _ h => h) (Or.inl ⟨by rfl, ?_⟩) (by assumption) ?_
          rotate_left
          · (intro w hSw; (try dsimp only at hSw); go_simp; try (with_reducible rfl))
          (try dsimp only); (try simp only [Act.put, List.setIfInBounds_toArray, List.set_cons_zero, List.set_cons_succ])
          refine wpAnyH_take (i := 2) (oi := ⟨some 19, _, _, _, _, _⟩) (v := ?_) rfl (by kernel_rfl) (by kernel_rfl) (by kernel_rfl) (fun _ _ _ h => h) (Or.inl ⟨by rfl, ?_⟩) (by assumption) ?_
          rotate_left
          · (intro w hSw; (try dsimp only at hSw); go_simp; try (with_reducible rfl))
          (try dsimp only); (try simp only [Act.put, List.setIfInBounds_toArray, List.set_cons_zero, List.set_cons_succ])
          refine wpAnyH_take (i := 3) (oi := ⟨some 20, _, _, _, _, _⟩) (v := ?_) rfl (by kernel_rfl) (by kernel_rfl) (by kernel_rfl) (fun _ _ _ h => h) (Or.inl ⟨by rfl, ?_⟩) (by assumption) ?_
          rotate_left
          · (intro w hSw; (try dsimp only at hSw); go_simp; try (with_reducible rfl))
          (try dsimp only); (try simp only [Act.put, List.setIfInBounds_toArray, List.set_cons_zero, List.set_cons_succ])
          refine wpAnyH_take (i := 4) (oi := ⟨some 21, _, _, _, _, _⟩) (v := ?_) rfl (by kernel_rfl) (by kernel_rfl) (by kernel_rfl) (fun _ _ _ h => h) (Or.inl ⟨by rfl, ?_⟩) (by assumption) ?_
          rotate_left
          · (intro w hSw; (try dsimp only at hSw); go_simp; try (with_reducible rfl))
          (try dsimp only); (try simp only [Act.put, List.setIfInBounds_toArray, List.set_cons_zero, List.set_cons_succ])
          refine wpAnyH_take (i := 5) (oi := ⟨some 22, _, _, _, _, _⟩) (v := ?_) rfl (by kernel_rfl) (by kernel_rfl) (by kernel_rfl) (fun _ _ _ h => h) (Or.inl ⟨by rfl, ?_⟩) (by assumption) ?_
          rotate_left
          · (intro w hSw; (try dsimp only at hSw); go_simp; try (with_reducible rfl))
          (try dsimp only); (try simp only [Act.put, List.setIfInBounds_toArray, List.set_cons_zero, List.set_cons_succ])
          refine wpAnyH_take (i := 6) (oi := ⟨some 23, _, _, _, _, _⟩) (v := ?_) rfl (by kernel_rfl) (by kernel_rfl) (by kernel_rfl) (fun _ _ _ h => h) (Or.inl ⟨by rfl, ?_⟩) (by assumption) ?_
          rotate_left
          · (intro w hSw; (try dsimp only at hSw); go_simp; try (with_reducible rfl))
          (try dsimp only); (try simp only [Act.put, List.setIfInBounds_toArray, List.set_cons_zero, List.set_cons_succ])
          refine wpAnyH_take (i := 7) (oi := ⟨some 24, _, _, _, _, _⟩) (v := ?_) rfl (by kernel_rfl) (by kernel_rfl) (by kernel_rfl) (fun _ _ _ h => h) (Or.inl ⟨by rfl, ?_⟩) (by assumption) ?_
          rotate_left
          · (intro w hSw; (try dsimp only at hSw); go_simp; try (with_reducible rfl))
          (try dsimp only); (try simp only [Act.put, List.setIfInBounds_toArray, List.set_cons_zero, List.set_cons_succ])
          refine wpAnyH_ready (rs := [8]) (by kernel_rfl) (by simp) ?_
          refine AllReadyH.cons (o := ⟨some 25, _, _, _, _, _⟩) rfl (fun K hK => ?_) AllReadyH.nil
          go_simp
          refine Calls.mono HC.out ?_
          rintro e w2 ⟨rfl, hb2⟩
          have HB2 : Hid (Below w.heap.size w w2) := hbl.drew.trans (hb2.mono hbl.drew.size)
          refine hK.out _ _ ⟨(hb2.cell (cell_lt hc1)).trans hc1, (hb2.cell (cell_lt hc2)).trans hc2⟩ (fun hHeld => ?_)
          clear hK K hb2
          (try dsimp only); (try simp only [Act.put, List.setIfInBounds_toArray, List.set_cons_zero, List.set_cons_succ])
          refine wpAnyH_take (i := 9) (oi := ⟨some 26, _, _, _, _, _⟩) (v := ?_) rfl (by kernel_rfl) (by kernel_rfl) (by kernel_rfl) (fun _ _ _ h => h) (Or.inl ⟨by rfl, ?_⟩) (by assumption) ?_
          rotate_left
          · (intro w hSw; (try dsimp only at hSw); go_simp; try (with_reducible rfl))
          (try dsimp only); (try simp only [Act.put, List.setIfInBounds_toArray, List.set_cons_zero, List.set_cons_succ])
          refine wpAnyH_done (by kernel_rfl) ?_ _
          refine NoPanic.normal ?_
          go_wp2
          go_roundw
          case rel => exact ⟨k + 1, by omega, by go_num, HN.out, HB2.out⟩
          case measure => simp [intOf]; omega
        · have HC : Hid (Calls Try.prog 34 #[rv1, rv2] wr.drew fun e w' => e = .returned (.bool false) ∧ Below wr.drew.heap.size wr.drew w') := by have := HC.out; rw [decide_eq_false he] at this; exact this
          have HF : Hid (b = false) := by
            show _ = _
            rw [Hb.out]
            exact decide_eq_false (fun e => he (by subst e; rfl))
          clear he
          go_upto_region 6 with fail
          refine wp_region_noPanic ?_
          refine wp_region_held_drew (S := fun W' => W'.cell? ⟨b1, off1 + k, none⟩ = some rv1 ∧ W'.cell? ⟨b2, off2 + k, none⟩ = some rv2) (by kernel_rfl) ?_ (fun hHeld => ?_)
          · ((try dsimp only); exact ⟨hc1, hc2⟩)
          (try dsimp only at hHeld)
          refine wpAnyH_take (i := 0) (oi := ⟨some 17, _, _, _, _, _⟩) (v := ?_) rfl (by kernel_rfl) (by kernel_rfl) (by kernel_rfl) (fun _ _ _ h => h) (Or.inl ⟨by rfl, ?_⟩) (by assumption) ?_
          rotate_left
          · (intro w hSw; (try dsimp only at hSw); go_simp; try (with_reducible rfl))
          (try dsimp only); (try simp only [Act.put, List.setIfInBounds_toArray, List.set_cons_zero, List.set_cons_succ])
          refine wpAnyH_take (i := 1) (oi := ⟨some 18, _, _, _, _, _⟩) (v := ?_) rfl (by kernel_rfl) (by kernel_rfl) (by kernel_rfl) (fun _ _ _ h => h) (Or.inl ⟨by rfl, ?_⟩) (by assumption) ?_
          rotate_left
          · (intro w hSw; (try dsimp only at hSw); go_simp; try (with_reducible rfl))
          (try dsimp only); (try simp only [Act.put, List.setIfInBounds_toArray, List.set_cons_zero, List.set_cons_succ])
          refine wpAnyH_take (i := 2) (oi := ⟨some 19, _, _, _, _, _⟩) (v := ?_) rfl (by kernel_rfl) (by kernel_rfl) (by kernel_rfl) (fun _ _ _ h => h) (Or.inl ⟨by rfl, ?_⟩) (by assumption) ?_
          rotate_left
          · (intro w hSw; (try dsimp only at hSw); go_simp; try (with_reducible rfl))
          (try dsimp only); (try simp only [Act.put, List.setIfInBounds_toArray, List.set_cons_zero, List.set_cons_succ])
          refine wpAnyH_take (i := 3) (oi := ⟨some 20, _, _, _, _, _⟩) (v := ?_) rfl (by kernel_rfl) (by kernel_rfl) (by kernel_rfl) (fun _ _ _ h => h) (Or.inl ⟨by rfl, ?_⟩) (by assumption) ?_
          rotate_left
          · (intro w hSw; (try dsimp only at hSw); go_simp; try (with_reducible rfl))
          (try dsimp only); (try simp only [Act.put, List.setIfInBounds_toArray, List.set_cons_zero, List.set_cons_succ])
          refine wpAnyH_take (i := 4) (oi := ⟨some 21, _, _, _, _, _⟩) (v := ?_) rfl (by kernel_rfl) (by kernel_rfl) (by kernel_rfl) (fun _ _ _ h => h) (Or.inl ⟨by rfl, ?_⟩) (by assumption) ?_
          rotate_left
          · (intro w hSw; (try dsimp only at hSw); go_simp; try (with_reducible rfl))
          (try dsimp only); (try simp only [Act.put, List.setIfInBounds_toArray, List.set_cons_zero, List.set_cons_succ])
          refine wpAnyH_take (i := 5) (oi := ⟨some 22, _, _, _, _, _⟩) (v := ?_) rfl (by kernel_rfl) (by kernel_rfl) (by kernel_rfl) (fun _ _ _ h => h) (Or.inl ⟨by rfl, ?_⟩) (by assumption) ?_
          rotate_left
          · (intro w hSw; (try dsimp only at hSw); go_simp; try (with_reducible rfl))
          (try dsimp only); (try simp only [Act.put, List.setIfInBounds_toArray, List.set_cons_zero, List.set_cons_succ])
          refine wpAnyH_take (i := 6) (oi := ⟨some 23, _, _, _, _, _⟩) (v := ?_) rfl (by kernel_rfl) (by kernel_rfl) (by kernel_rfl) (fun _ _ _ h => h) (Or.inl ⟨by rfl, ?_⟩) (by assumption) ?_
          rotate_left
          · (intro w hSw; (try dsimp only at hSw); go_simp; try (with_reducible rfl))
          (try dsimp only); (try simp only [Act.put, List.setIfInBounds_toArray, List.set_cons_zero, List.set_cons_succ])
          refine wpAnyH_take (i := 7) (oi := ⟨some 24, _, _, _, _, _⟩) (v := ?_) rfl (by kernel_rfl) (by kernel_rfl) (by kernel_rfl) (fun _ _ _ h => h) (Or.inl ⟨by rfl, ?_⟩) (by assumption) ?_
          rotate_left
          · (intro w hSw; (try dsimp only at hSw); go_simp; try (with_reducible rfl))
          (try dsimp only); (try simp only [Act.put, List.setIfInBounds_toArray, List.set_cons_zero, List.set_cons_succ])
          refine wpAnyH_ready (rs := [8]) (by kernel_rfl) (by simp) ?_
          refine AllReadyH.cons (o := ⟨some 25, _, _, _, _, _⟩) rfl (fun K hK => ?_) AllReadyH.nil
          go_simp
          refine Calls.mono HC.out ?_
          rintro e w2 ⟨rfl, hb2⟩
          have HB2 : Hid (Below w.heap.size w w2) := hbl.drew.trans (hb2.mono hbl.drew.size)
          refine hK.out _ _ ⟨(hb2.cell (cell_lt hc1)).trans hc1, (hb2.cell (cell_lt hc2)).trans hc2⟩ (fun hHeld => ?_)
          clear hK K hb2
          (try dsimp only); (try simp only [Act.put, List.setIfInBounds_toArray, List.set_cons_zero, List.set_cons_succ])
          refine wpAnyH_take (i := 9) (oi := ⟨some 26, _, _, _, _, _⟩) (v := ?_) rfl (by kernel_rfl) (by kernel_rfl) (by kernel_rfl) (fun _ _ _ h => h) (Or.inl ⟨by rfl, ?_⟩) (by assumption) ?_
          rotate_left
          · (intro w hSw; (try dsimp only at hSw); go_simp; try (with_reducible rfl))
          (try dsimp only); (try simp only [Act.put, List.setIfInBounds_toArray, List.set_cons_zero, List.set_cons_succ])
          refine wpAnyH_done (by kernel_rfl) ?_ _
          refine NoPanic.normal ?_
          go_wp2
          go_ret
          exact ⟨by rw [HF.out]; rfl, HB2.out⟩
      · have hlt' : ¬ (k : Int) < (n : Int) := by omega
        have HF : Hid (b = true) := by
          show _ = _
          rw [Hb.out]
          exact decide_eq_true (HV.out fun i h h' => HEq.out i h h' (by have := Hn.out; omega))
        go_wp2_with fail
        go_ret
        exact ⟨by rw [HF.out]; rfl, hbl⟩
  · have hb : decide (l = m) = false := decide_eq_false (fun e => hl (by rw [e]))
    have hne : ((l.length : Int) != (m.length : Int)) = true := by rw [bne_iff_ne]; omega
    rw [hb]
    clear hb HA HA'
    generalize l.length = n1 at *
    generalize m.length = n2 at *
    go_enter Try.func47, Try.ntmps47
    go_wp2
    go_ret
    exact ⟨rfl, Below.refl _ _⟩
end Go.Proofs.Ytljhhdpeakencaa
end
section
set_option linter.unusedSimpArgs false
set_option linter.unusedVariables false
namespace Go.Proofs.Ytljhhdpeakencaa
open Go.RowKit

/-! tarnref0.CopyCells. -/
theorem infoRow : (Try.prog.info? 37).map (fun i => (i.zero, i.size, i.bytes)) = some (some (Value.slice none 0 0), 1, 24) := by kernel_rfl
/-- Rows of one's own, in a row of one's own. -/
def Lc (w : World) (base : Nat) (v : Value) (ls : List (List UInt8)) : Prop :=
  ∃ ps : List (List UInt8 × Value), ps.map Prod.fst = ls ∧ w.ownsRow base 37 1 v ps.length (ps.map Prod.snd) ∧ ∀ p ∈ ps, Ow w base p.2 p.1
theorem Lc.nil (w : World) (base : Nat) : Lc w base (.slice none 0 0) [] := ⟨[], rfl, World.ownsRow_nil _ _ _ 1, fun p hp => by cases hp⟩
theorem Lc.rl {w : World} {base : Nat} {v : Value} {ls : List (List UInt8)} (h : Lc w base v ls) (hm : ls.length ≤ 9223372036854775807) (hs : ∀ l ∈ ls, l.length ≤ 9223372036854775807) : Rl w v ls := by
  obtain ⟨ps, rfl, h2, h3⟩ := h
  have h2' := h2
  rw [List.length_map] at hm
  rcases h2.2 with ⟨rfl, hz⟩ | ⟨g, c, cur, rfl, _, _, hle, _⟩
  · exact ⟨none, 0, by rw [List.length_map, hz], by rw [List.length_map]; omega, by rw [List.length_map]; omega, fun i hi => by rw [List.length_map] at hi; omega⟩
  · refine ⟨_, c, by rw [List.length_map], by rw [List.length_map]; exact hle, by rw [List.length_map]; exact hm, fun i hi => ?_⟩
    rw [List.length_map] at hi
    refine ⟨g, 0, ps[i].2, rfl, ?_, ?_⟩
    · rw [Nat.zero_add, World.ownsRow.cellAt h2' i (by omega)]
      simp [hi]
    · have hr := (h3 ps[i] (List.getElem_mem hi)).rb (hs _ (List.mem_map.2 ⟨ps[i], List.getElem_mem hi, rfl⟩))
      simpa using hr
theorem Lc.snoc {w wr w2 w1 : World} {ls : List (List UInt8)} {u u2 v1 : Value} {x : List UInt8} {o : Obj} {ps : List (List UInt8 × Value)} (hps : ps.map Prod.fst = ls) (hrow : wr.ownsRow w.heap.size 37 1 u ps.length (ps.map Prod.snd)) (hin : ∀ p ∈ ps, Ow wr w.heap.size p.2 p.1) (hb : Below wr.heap.size wr w2) (hz : w.heap.size ≤ wr.heap.size) (hx : Ow w2 wr.heap.size u2 x)
    (h1 : w1.ownsRow w.heap.size 37 1 v1 (ps.length + 1) (ps.map Prod.snd ++ [u2])) (hg : (w2.alloc o).grownBy w1 u.ownBlock) : Lc w1 w.heap.size v1 (ls ++ [x]) := by
  have ty : ∀ {p : Value} {l : List UInt8}, Ow w2 w.heap.size p l → p.ownBlock = none ∨ p.ownBlock ≠ u.ownBlock := fun {p l} hp => by
    cases e : p.ownBlock with
    | none => exact .inl rfl
    | some b =>
      right
      intro e2
      obtain ⟨c, e3⟩ := hp.bytes b e
      have hl := (hrow.lt b e2.symm).2
      rcases hrow.2 with ⟨e4, _⟩ | ⟨g, cap, cur, e4, _, g4, _⟩
      · rw [e4] at e2; simp [Value.ownBlock] at e2
      · rw [e4] at e2; simp [Value.ownBlock] at e2; subst e2
        rw [hb.block b hl, g4] at e3
        simp at e3
  have up : Ow w2 w.heap.size u2 x := by
    refine ⟨hx.1, ?_⟩
    rcases hx.2 with h2 | ⟨g, cap, cur, e, h3, h4, h5⟩
    · exact .inl h2
    · exact .inr ⟨g, cap, cur, e, Nat.le_trans hz h3, h4, h5⟩
  refine ⟨ps ++ [(x, u2)], by simp [hps], ?_, fun p hp => ?_⟩
  · have e : (ps ++ [(x, u2)]).length = ps.length + 1 := by simp
    have e2 : (ps ++ [(x, u2)]).map Prod.snd = ps.map Prod.snd ++ [u2] := by simp
    rw [e, e2]
    exact h1
  · have hp2 : Ow w2 w.heap.size p.2 p.1 := by
      rcases List.mem_append.1 hp with hp | hp
      · exact (hin p hp).below hb (hin p hp).lt
      · simp at hp; subst hp; exact up
    exact (hp2.alloc o).kept hg (ty hp2)
set_option maxRecDepth 100000 in
set_option maxHeartbeats 1000000 in
theorem copyCells (w : World) (v : Value) (l : List (List UInt8)) (h : Rl w v l) (hn : l.length ≤ 1099511627776) (hs : ∀ r ∈ l, r.length ≤ 1099511627776) :
    Calls Try.prog 24 #[v] w fun e w' => ∃ u, e = .returned u ∧ Lc w' w.heap.size u l ∧ Below w.heap.size w w' := by
  obtain ⟨ad, cap, rfl, hle, hm, hat⟩ := h
  obtain ⟨i0, hi, hz0, hz1, hz2⟩ := info_of infoRow
  have HA : Hid _ := hat
  have HS : Hid (∀ r ∈ l, r.length ≤ 1099511627776) := hs
  obtain ⟨n, hnl⟩ : ∃ n, n = l.length := ⟨_, rfl⟩
  have Hnl : Hid (n = l.length) := hnl
  rw [← hnl] at hle hm hn ⊢
  clear hat hnl hs
  go_enter Try.func24, Try.ntmps24
  go_wp2_with fail
  go_loopw [3, 4] (fun u i wr => ∃ (k : Nat), k ≤ n ∧ i = .int .i64 (k : Int) ∧ Lc wr w.heap.size u (l.take k) ∧ Below w.heap.size w wr) (fun _ i _ => n - (intOf i).toNat)
  case atStart => exact ⟨0, by omega, rfl, Lc.nil _ _, Below.refl _ _⟩
  case round =>
    obtain ⟨k, hk, rfl, hlc, hbl⟩ := hrel
    have hsz2 := hbl.size
    have hlc2 := hlc
    obtain ⟨ps, hps, hrow, hin⟩ := hlc
    obtain ⟨ad2, n2, cap2, rfl⟩ := ownsRow_sl hrow
    have HLc : Hid (Lc wr w.heap.size (.slice ad2 n2 cap2) (l.take k)) := hlc2
    clear hlc2
    by_cases hlt : k < n
    · have hlt' : (k : Int) < (n : Int) := by omega
      have hkl : k < l.length := by have := Hnl.out; omega
      obtain ⟨b, off, rv, e0, hc, hrb⟩ := HA.out k hkl
      subst e0
      have hc := (hbl.cell (cell_lt hc)).trans hc
      have hpl : ps.length = k := by have := congrArg List.length hps; simp at this; omega
      have HC : Hid (Calls Try.prog 49 #[rv] wr fun e w' => ∃ u, e = .returned u ∧ Ow w' wr.heap.size u l[k] ∧ Below wr.heap.size wr w') := copyBytes _ _ _ (hrb.below hbl) (HS.out _ (List.getElem_mem hkl))
      obtain ⟨ra, rc, x1, h9⟩ := hrb
      have o1 : rv.oneCell' = true := by rw [x1]; rfl
      clear h9 x1
      have HST : Hid (l.take (k + 1) = l.take k ++ [l[k]]) := List.take_succ_eq_append_getElem hkl
      have HP : Hid (ps.map Prod.fst = l.take k ∧ wr.ownsRow w.heap.size 37 1 (.slice ad2 n2 cap2) ps.length (ps.map Prod.snd) ∧ ∀ p ∈ ps, Ow wr w.heap.size p.2 p.1) := ⟨hps, hrow, hin⟩
      have Hpl : Hid (ps.length = k) := hpl
      clear hps hin hpl HLc
      generalize l[k] = y at *
      go_wp2_with (first | (go_at_call 49; refine Calls.mono HC.out ?_; rintro e w2 ⟨u2, rfl, ho2, hb2⟩; have HB2 : Hid (Ow w2 wr.heap.size u2 y ∧ Below wr.heap.size wr w2) := ⟨ho2, hb2⟩; have hsz3 := hb2.size; have hrow2 : w2.ownsRow w.heap.size 37 1 (.slice ad2 n2 cap2) ps.length (ps.map Prod.snd) := ownsRow_same hrow (fun b hb => hb2.block b (hrow.lt b hb).2); obtain ⟨ad3, n3, cap3, rfl⟩ := ownsRow_sl ho2; clear ho2 hb2) | (at_builtin; refine wpList_append_own _ rfl _ _ 22 rfl w.heap.size 37 i0 (.slice none 0 0) 1 24 Try.underlying22 hi hz0 hz1 hz2 rfl (by decide) _ ps.length _ rfl (hrow2.alloc _) ⟨w2.heap.size, 0, none⟩ 1 1 [.slice ad3 n3 cap3] rfl rfl (cell_one_new _ _ _) (by simp [Value.oneCell']) (by have := Hpl.out; unfold maxLen; omega) (by have := Hpl.out; omega) (by simp; omega) ?_; intro v1 w1 hown1 hgrow1 hnil1))
      go_roundw
      case rel =>
        refine ⟨k + 1, by omega, by go_num, ?_, ?_⟩
        · rw [HST.out]
          exact Lc.snoc HP.out.1 HP.out.2.1 HP.out.2.2 HB2.out.2 hsz2 HB2.out.1 hown1 hgrow1
        · exact ((hbl.trans (HB2.out.2.mono hsz2)).alloc (by omega) _).grown hgrow1 (by simp; omega) (fun j hj => (hrow.lt j hj).1)
      case measure => simp [intOf]; omega
    · have hlt' : ¬ (k : Int) < (n : Int) := by omega
      obtain rfl : k = n := by omega
      have HO : Hid (Lc wr w.heap.size (.slice ad2 n2 cap2) l) := by
        have h9 : Lc wr w.heap.size (.slice ad2 n2 cap2) (l.take k) := HLc.out
        rw [Hnl.out, List.take_length] at h9
        exact h9
      clear HLc hps hin
      go_wp2_with fail
      go_ret
      exact ⟨_, rfl, HO.out, hbl⟩
end Go.Proofs.Ytljhhdpeakencaa
end
section
set_option linter.unusedSimpArgs false
set_option linter.unusedVariables false
namespace Go.Proofs.Ytljhhdpeakencaa
open Go.RowKit

/-! What a disk always is: what it tells now is what is safe, and its changes over it. -/
structure Inv (D : Ds) : Prop where
  now : ∀ i, i < 8 → D.now i = fld (D.chs i) (D.safe i)
  len : ∀ i, i < 8 → (D.now i).length ≤ 131072
  saf : ∀ i, i < 8 → (D.safe i).length ≤ 131072
  chb : ∀ i, i < 8 → ∀ c ∈ D.chs i, ChB c
theorem Inv.cnt {D : Ds} (h : Inv D) : Inv (cnt D) := ⟨h.now, h.len, h.saf, h.chb⟩
theorem Inv.offD {D : Ds} (h : Inv D) (n : Int) : Inv (offD D n) := ⟨h.now, h.len, h.saf, h.chb⟩
theorem Inv.failD {D : Ds} (h : Inv D) (n : Int) : Inv (failD D n) := ⟨h.now, h.len, h.saf, h.chb⟩
theorem Inv.chg {D : Ds} (h : Inv D) {i : Nat} (hi : i < 8) {c : Ch} (hc : ChB c) (hl : (ovr c (D.now i)).length ≤ 131072) : Inv (chg D i c) := by
  refine ⟨fun j hj => ?_, fun j hj => ?_, h.saf, fun j hj c' hc' => ?_⟩
  · by_cases e : j = i
    · subst e
      show upd D.now j (ovr c (D.now j)) j = fld (upd D.chs j (D.chs j ++ [c]) j) (D.safe j)
      rw [upd_same, upd_same, h.now j hj]
      exact (fld_snoc ..).symm
    · show upd D.now i _ j = fld (upd D.chs i _ j) (D.safe j)
      rw [upd_other _ _ e, upd_other _ _ e]
      exact h.now j hj
  · by_cases e : j = i
    · subst e
      show (upd D.now j (ovr c (D.now j)) j).length ≤ _
      rw [upd_same]; exact hl
    · show (upd D.now i _ j).length ≤ _
      rw [upd_other _ _ e]; exact h.len j hj
  · by_cases e : j = i
    · subst e
      have hc2 : c' ∈ upd D.chs j (D.chs j ++ [c]) j := hc'
      rw [upd_same] at hc2
      rcases List.mem_append.1 hc2 with h1 | h1
      · exact h.chb j hj c' h1
      · simp at h1; subst h1; exact hc
    · have hc2 : c' ∈ upd D.chs i (D.chs i ++ [c]) j := hc'
      rw [upd_other _ _ e] at hc2
      exact h.chb j hj c' hc2
theorem Inv.wrL {i a : Nat} {bs : List UInt8} (hi : i < 8) (hab : a + bs.length ≤ 131072) (xs : List (Nat × Nat)) (hx : ∀ x ∈ xs, 0 < x.2 ∧ x.1 + x.2 ≤ bs.length) : ∀ {D : Ds}, Inv D → Inv (wrL D i a bs xs) := by
  induction xs with
  | nil => intro D h; exact h
  | cons x xs ih =>
    intro D h
    have h1 := hx x (List.mem_cons_self ..)
    have e1 : ((bs.drop x.1).take x.2).length = x.2 := by simp; omega
    refine ih (fun y hy => hx y (List.mem_cons_of_mem _ hy)) (D := Go.Proofs.Ytljhhdpeakencaa.chg D i (pch a bs x)) (h.chg hi ⟨?_, fun _ => ?_⟩ ?_)
    · show a + x.1 + ((bs.drop x.1).take x.2).length ≤ _
      omega
    · show 0 < ((bs.drop x.1).take x.2).length
      omega
    · rw [ovr_length (by rfl)]
      show max _ (a + x.1 + ((bs.drop x.1).take x.2).length) ≤ _
      have := h.len i hi
      omega
theorem Inv.wrD {D : Ds} (h : Inv D) (f at_ : Int) (bs : List UInt8) : Inv (wrD D f at_ bs) := by
  by_cases hw : wrE D f at_ bs.length = 0
  · obtain ⟨h0, i, a, rfl, hi, rfl, ha, hab⟩ := wrE_ok hw
    have e : Go.Proofs.Ytljhhdpeakencaa.wrD D (i : Int) (a : Int) bs = Go.Proofs.Ytljhhdpeakencaa.wrL (Go.Proofs.Ytljhhdpeakencaa.cnt D) i a bs (pcs a bs.length 0) := by unfold Go.Proofs.Ytljhhdpeakencaa.wrD; rw [if_pos hw, Int.toNat_natCast, Int.toNat_natCast]
    rw [e]
    exact Inv.wrL hi hab _ (pcs_mem bs.length 0 (by omega)) h.cnt
  · have e : Go.Proofs.Ytljhhdpeakencaa.wrD D f at_ bs = Go.Proofs.Ytljhhdpeakencaa.cnt D := if_neg hw
    rw [e]
    exact h.cnt
theorem Inv.cutD {D : Ds} (h : Inv D) (f n : Int) : Inv (cutD D f n) := by
  by_cases hw : cutE D f n = 0
  · have e : Go.Proofs.Ytljhhdpeakencaa.cutD D f n = Go.Proofs.Ytljhhdpeakencaa.chg (Go.Proofs.Ytljhhdpeakencaa.cnt D) f.toNat ⟨true, n.toNat, []⟩ := if_pos hw
    rw [e]
    have h0 : cntE D f = 0 := by
      refine Classical.byContradiction fun h9 => ?_
      unfold cutE at hw
      rw [if_pos h9] at hw
      exact h9 hw
    obtain ⟨ho, i, rfl, hi, hp⟩ := cnt_ok (d := 0) h0
    unfold cutE at hw
    rw [if_neg (by rw [h0]; simp), Int.toNat_natCast] at hw
    rw [Int.toNat_natCast]
    have hn : ¬ (n < 0 ∨ ((D.now i).length : Int) < n) := fun h9 => by rw [if_pos h9] at hw; omega
    have hl := h.len i hi
    refine h.cnt.chg hi ⟨?_, fun h9 => by simp at h9⟩ ?_
    · show n.toNat + 0 ≤ _; omega
    · rw [ovr_cut (by rfl)]
      show ((D.now i).take n.toNat).length ≤ _
      rw [List.length_take]; omega
  · have e : Go.Proofs.Ytljhhdpeakencaa.cutD D f n = Go.Proofs.Ytljhhdpeakencaa.cnt D := if_neg hw
    rw [e]
    exact h.cnt
/-- What the program's Sync makes of a disk is what the page's makes. -/
theorem Inv.syD {D : Ds} (h : Inv D) (f : Int) : syD D f = psyD D f := by
  unfold Go.Proofs.Ytljhhdpeakencaa.syD psyD
  by_cases h0 : cntE D f = 0
  · obtain ⟨ho, i, rfl, hi, hp⟩ := cnt_ok (d := 0) h0
    rw [if_pos h0, if_pos h0, Int.toNat_natCast, h.now i hi]
  · rw [if_neg h0, if_neg h0]
theorem Inv.psyD {D : Ds} (h : Inv D) (f : Int) : Inv (psyD D f) := by
  unfold Go.Proofs.Ytljhhdpeakencaa.psyD
  by_cases h0 : cntE D f = 0
  · obtain ⟨ho, i, rfl, hi, hp⟩ := cnt_ok (d := 0) h0
    rw [if_pos h0, Int.toNat_natCast]
    refine ⟨fun j hj => ?_, h.len, fun j hj => ?_, fun j hj c hc => ?_⟩
    · show D.now j = fld (upd D.chs i [] j) (upd D.safe i (D.now i) j)
      by_cases e : j = i
      · subst e; rw [upd_same, upd_same]; rfl
      · rw [upd_other _ _ e, upd_other _ _ e]; exact h.now j hj
    · show (upd D.safe i (D.now i) j).length ≤ _
      by_cases e : j = i
      · subst e; rw [upd_same]; exact h.len j hj
      · rw [upd_other _ _ e]; exact h.saf j hj
    · have hc2 : c ∈ upd D.chs i [] j := hc
      by_cases e : j = i
      · subst e; rw [upd_same] at hc2; cases hc2
      · rw [upd_other _ _ e] at hc2; exact h.chb j hj c hc2
  · rw [if_neg h0]
    exact h.cnt
end Go.Proofs.Ytljhhdpeakencaa
end
section
set_option linter.unusedSimpArgs false
set_option linter.unusedVariables false
namespace Go.Proofs.Ytljhhdpeakencaa
open Go.RowKit

/-! The page's New: what lies there under way. -/
theorem Lc.same {w w' : World} {base : Nat} {v : Value} {ls : List (List UInt8)} (h : Lc w base v ls) (hv : ∀ b, v.ownBlock = some b → w'.heap[b]? = w.heap[b]?) (hb : ∀ b, base ≤ b → b < w.heap.size → (∃ cur, w.heap[b]? = some (.cells cur 5)) → w'.heap[b]? = w.heap[b]?) : Lc w' base v ls := by
  obtain ⟨ps, h1, h2, h3⟩ := h
  exact ⟨ps, h1, ownsRow_same h2 hv, fun p hp => (h3 p hp).same fun b e => hb b ((h3 p hp).ge e).1 ((h3 p hp).ge e).2 ((h3 p hp).bytes b e)⟩
theorem Lc.row {w : World} {base : Nat} {v : Value} {ls : List (List UInt8)} (h : Lc w base v ls) : ∀ b, v.ownBlock = some b → base ≤ b ∧ b < w.heap.size ∧ ∃ cur, w.heap[b]? = some (.cells cur 37) := fun b hb => by
  obtain ⟨ps, h1, h2, h3⟩ := h
  refine ⟨(h2.lt b hb).1, (h2.lt b hb).2, ?_⟩
  rcases h2.2 with ⟨rfl, _⟩ | ⟨g, cap, cur, rfl, _, h4, _⟩
  · simp [Value.ownBlock] at hb
  · simp [Value.ownBlock] at hb; subst hb; exact ⟨cur, h4⟩
theorem owns_row {w : World} {base n : Nat} {e : TypeId} {v : Value} {xs : List Value} (h : w.ownsRow base e 1 v n xs) : ∀ b, v.ownBlock = some b → base ≤ b ∧ b < w.heap.size ∧ ∃ cur, w.heap[b]? = some (.cells cur e) := fun b hb => by
  refine ⟨(h.lt b hb).1, (h.lt b hb).2, ?_⟩
  rcases h.2 with ⟨rfl, _⟩ | ⟨g, cap, cur, rfl, _, h4, _⟩
  · simp [Value.ownBlock] at hb
  · simp [Value.ownBlock] at hb; subst hb; exact ⟨cur, h4⟩
def pr8 (ls : List (List UInt8)) (n : Nat) : List (List UInt8) := (List.range n).map fun i => ls.getD i []
theorem pr8_succ (ls : List (List UInt8)) (n : Nat) : pr8 ls (n + 1) = pr8 ls n ++ [ls.getD n []] := by simp [pr8, List.range_succ]
theorem pr8_length (ls : List (List UInt8)) (n : Nat) : (pr8 ls n).length = n := by simp [pr8]
structure PnI (w : World) (ls : List (List UInt8)) (n m k : Nat) (W : World) (LV SV NV : Value) : Prop where
  blk : Bk W w.heap.size (pkc LV SV NV 0 0 false false false) 101
  live : Lc W w.heap.size LV (pr8 ls n)
  safr : Lc W w.heap.size SV (pr8 ls m)
  new : W.ownsRow w.heap.size 110 1 NV k (List.replicate k (.slice none 0 0))
  ap : ∀ b, LV.ownBlock = some b → SV.ownBlock ≠ some b
  bel : Below w.heap.size w W
theorem PnI.zero (w : World) (ls : List (List UInt8)) : PnI w ls 0 0 0 (w.alloc (.cells (pkc (.slice none 0 0) (.slice none 0 0) (.slice none 0 0) 0 0 false false false) 101)) (.slice none 0 0) (.slice none 0 0) (.slice none 0 0) :=
  ⟨Bk.new _ _ _, Lc.nil _ _, Lc.nil _ _, World.ownsRow_nil _ _ _ 1, fun b hb => by simp [Value.ownBlock] at hb, (Below.refl _ _).alloc (Nat.le_refl _) _⟩
section
variable {w W w2 w5 : World} {ls : List (List UInt8)} {n m k : Nat} {LV SV NV : Value} {u2 v5 : Value} {o : Obj}
/-- Behind a call that made what is new, a box, an append to a row of ours, and its store: what else lies there stays. -/
theorem pn_ne (hb : Below W.heap.size W w2) {row : Value} (hg : (w2.alloc o).grownBy w5 row.ownBlock) (j : Nat) : ∀ b, b < W.heap.size → b ≠ w.heap.size → some b ≠ row.ownBlock → (w5.setCell ⟨w.heap.size, j, none⟩ v5).heap[b]? = W.heap[b]? := fun b h1 h2 h3 =>
  (Below.heap_setCell w5 ⟨w.heap.size, j, none⟩ v5 b h2).trans ((hg.block b (by have := hb.size; simp; omega) h3).trans ((Below.heap_alloc w2 o b (by have := hb.size; omega)).trans (hb.block b h1)))
theorem pn_bel (h : Below w.heap.size w W) (hb : Below W.heap.size W w2) {row : Value} (hr : ∀ b, row.ownBlock = some b → w.heap.size ≤ b) (hg : (w2.alloc o).grownBy w5 row.ownBlock) (j : Nat) : Below w.heap.size w (w5.setCell ⟨w.heap.size, j, none⟩ v5) :=
  ((((h.trans (hb.mono h.size)).alloc (by have := h.size; have := hb.size; omega) _).grown hg (by have := h.size; have := hb.size; simp; omega) (fun b hb' => hr b hb')).setCell (p := ⟨w.heap.size, j, none⟩) (Nat.le_refl _) v5)
theorem PnI.dlt (h : PnI w ls n m k W LV SV NV) : w.heap.size < W.heap.size := h.blk.lt
theorem PnI.liveStep (h : PnI w ls n m k W LV SV NV) (hb : Below W.heap.size W w2) (hx : Ow w2 W.heap.size u2 (ls.getD n [])) {ps : List (List UInt8 × Value)} (hps : ps.map Prod.fst = pr8 ls n) (hrow : W.ownsRow w.heap.size 37 1 LV ps.length (ps.map Prod.snd)) (hin : ∀ p ∈ ps, Ow W w.heap.size p.2 p.1)
    (h1 : w5.ownsRow w.heap.size 37 1 v5 (ps.length + 1) (ps.map Prod.snd ++ [u2])) (hg : (w2.alloc o).grownBy w5 LV.ownBlock) (hs : Sn (w2.alloc o) LV v5) : PnI w ls (n + 1) m k (w5.setCell ⟨w.heap.size, 0, none⟩ v5) v5 SV NV := by
  have ne := pn_ne (w := w) (v5 := v5) hb hg 0
  have hd := h.dlt
  have hL := h.live.row
  have hz := h.bel.size
  have hz2 := hb.size
  have hdr : some w.heap.size ≠ LV.ownBlock := fun e => by
    obtain ⟨_, _, c, e2⟩ := hL _ e.symm
    rw [show W.heap[w.heap.size]? = _ from h.blk] at e2
    simp at e2
  have hl5 := Lc.snoc hps hrow hin hb hz hx h1 hg
  have r5 := owns_row h1
  have hd5 : Bk w5 w.heap.size (pkc LV SV NV 0 0 false false false) 101 := ((h.blk.below hb hd).alloc _).grown hg hdr
  refine ⟨hd5.set 0 v5 rfl, ?_, h.safr.same (fun b e => ne b (h.safr.row b e).2.1 (fun e2 => ?_) (fun e2 => h.ap b e2.symm e)) (fun b b1 b2 b3 => ne b b2 (fun e2 => ?_) (fun e2 => ?_)), ownsRow_same h.new (fun b e => ne b (owns_row h.new b e).2.1 (fun e2 => ?_) (fun e2 => ?_)), fun b e e2 => ?_, pn_bel h.bel hb (fun b e => (hL b e).1) hg 0⟩
  · rw [pr8_succ]
    refine hl5.same (fun b e => Below.heap_setCell w5 ⟨w.heap.size, 0, none⟩ v5 b (fun e2 => ?_)) (fun b b1 b2 b3 => Below.heap_setCell w5 ⟨w.heap.size, 0, none⟩ v5 b (fun e2 => ?_))
    · subst e2
      obtain ⟨_, _, c, e3⟩ := r5 _ e
      rw [show w5.heap[w.heap.size]? = _ from hd5] at e3
      simp at e3
    · have e2 : b = w.heap.size := e2
      subst e2
      obtain ⟨c, e3⟩ := b3
      rw [show w5.heap[w.heap.size]? = _ from hd5] at e3
      simp at e3
  · subst e2
    obtain ⟨_, _, c, e3⟩ := h.safr.row _ e
    rw [show W.heap[w.heap.size]? = _ from h.blk] at e3
    simp at e3
  · subst e2
    obtain ⟨c, e3⟩ := b3
    rw [show W.heap[w.heap.size]? = _ from h.blk] at e3
    simp at e3
  · obtain ⟨_, _, c, e3⟩ := hL b e2.symm
    obtain ⟨c', e4⟩ := b3
    rw [e3] at e4
    simp at e4
  · subst e2
    obtain ⟨_, _, c, e3⟩ := owns_row h.new _ e
    rw [show W.heap[w.heap.size]? = _ from h.blk] at e3
    simp at e3
  · obtain ⟨_, _, c, e3⟩ := hL b e2.symm
    obtain ⟨_, _, c', e4⟩ := owns_row h.new b e
    rw [e3] at e4
    simp at e4
  · have hsb := h.safr.row b e2
    rcases hs with h3 | h3
    · exact h.ap b (h3 ▸ e) e2
    · have := h3 b e
      simp at this
      omega
theorem PnI.safeStep (h : PnI w ls n m k W LV SV NV) (hb : Below W.heap.size W w2) (hx : Ow w2 W.heap.size u2 (ls.getD m [])) {ps : List (List UInt8 × Value)} (hps : ps.map Prod.fst = pr8 ls m) (hrow : W.ownsRow w.heap.size 37 1 SV ps.length (ps.map Prod.snd)) (hin : ∀ p ∈ ps, Ow W w.heap.size p.2 p.1)
    (h1 : w5.ownsRow w.heap.size 37 1 v5 (ps.length + 1) (ps.map Prod.snd ++ [u2])) (hg : (w2.alloc o).grownBy w5 SV.ownBlock) (hs : Sn (w2.alloc o) SV v5) : PnI w ls n (m + 1) k (w5.setCell ⟨w.heap.size, 1, none⟩ v5) LV v5 NV := by
  have ne := pn_ne (w := w) (v5 := v5) hb hg 1
  have hd := h.dlt
  have hL := h.safr.row
  have hz := h.bel.size
  have hz2 := hb.size
  have hdr : some w.heap.size ≠ SV.ownBlock := fun e => by
    obtain ⟨_, _, c, e2⟩ := hL _ e.symm
    rw [show W.heap[w.heap.size]? = _ from h.blk] at e2
    simp at e2
  have hl5 := Lc.snoc hps hrow hin hb hz hx h1 hg
  have r5 := owns_row h1
  have hd5 : Bk w5 w.heap.size (pkc LV SV NV 0 0 false false false) 101 := ((h.blk.below hb hd).alloc _).grown hg hdr
  refine ⟨hd5.set 1 v5 rfl, h.live.same (fun b e => ne b (h.live.row b e).2.1 (fun e2 => ?_) (fun e2 => h.ap b e e2.symm)) (fun b b1 b2 b3 => ne b b2 (fun e2 => ?_) (fun e2 => ?_)), ?_, ownsRow_same h.new (fun b e => ne b (owns_row h.new b e).2.1 (fun e2 => ?_) (fun e2 => ?_)), fun b e2 e => ?_, pn_bel h.bel hb (fun b e => (hL b e).1) hg 1⟩
  · subst e2
    obtain ⟨_, _, c, e3⟩ := h.live.row _ e
    rw [show W.heap[w.heap.size]? = _ from h.blk] at e3
    simp at e3
  · subst e2
    obtain ⟨c, e3⟩ := b3
    rw [show W.heap[w.heap.size]? = _ from h.blk] at e3
    simp at e3
  · obtain ⟨_, _, c, e3⟩ := hL b e2.symm
    obtain ⟨c', e4⟩ := b3
    rw [e3] at e4
    simp at e4
  · rw [pr8_succ]
    refine hl5.same (fun b e => Below.heap_setCell w5 ⟨w.heap.size, 1, none⟩ v5 b (fun e2 => ?_)) (fun b b1 b2 b3 => Below.heap_setCell w5 ⟨w.heap.size, 1, none⟩ v5 b (fun e2 => ?_))
    · subst e2
      obtain ⟨_, _, c, e3⟩ := r5 _ e
      rw [show w5.heap[w.heap.size]? = _ from hd5] at e3
      simp at e3
    · have e2 : b = w.heap.size := e2
      subst e2
      obtain ⟨c, e3⟩ := b3
      rw [show w5.heap[w.heap.size]? = _ from hd5] at e3
      simp at e3
  · subst e2
    obtain ⟨_, _, c, e3⟩ := owns_row h.new _ e
    rw [show W.heap[w.heap.size]? = _ from h.blk] at e3
    simp at e3
  · obtain ⟨_, _, c, e3⟩ := hL b e2.symm
    obtain ⟨_, _, c', e4⟩ := owns_row h.new b e
    rw [e3] at e4
    simp at e4
  · have hsb := h.live.row b e2
    rcases hs with h3 | h3
    · exact h.ap b e2 (h3 ▸ e)
    · have := h3 b e
      simp at this
      omega
theorem PnI.newStep (h : PnI w ls n m k W LV SV NV) (h1 : w5.ownsRow w.heap.size 110 1 v5 (k + 1) (List.replicate k (.slice none 0 0) ++ [.slice none 0 0])) (hg : (W.alloc o).grownBy w5 NV.ownBlock) : PnI w ls n m (k + 1) (w5.setCell ⟨w.heap.size, 2, none⟩ v5) LV SV v5 := by
  have hb : Below W.heap.size W W := Below.refl _ _
  have ne := pn_ne (w := w) (v5 := v5) hb hg 2
  have hd := h.dlt
  have hL := owns_row h.new
  have hz := h.bel.size
  have hdr : some w.heap.size ≠ NV.ownBlock := fun e => by
    obtain ⟨_, _, c, e2⟩ := hL _ e.symm
    rw [show W.heap[w.heap.size]? = _ from h.blk] at e2
    simp at e2
  have r5 := owns_row h1
  have hd5 : Bk w5 w.heap.size (pkc LV SV NV 0 0 false false false) 101 := (h.blk.alloc _).grown hg hdr
  have oth : ∀ {v : Value} {l : List (List UInt8)}, Lc W w.heap.size v l → Lc (w5.setCell ⟨w.heap.size, 2, none⟩ v5) w.heap.size v l := fun {v l} hl => by
    refine hl.same (fun b e => ne b (hl.row b e).2.1 (fun e2 => ?_) (fun e2 => ?_)) (fun b b1 b2 b3 => ne b b2 (fun e2 => ?_) (fun e2 => ?_))
    · subst e2
      obtain ⟨_, _, c, e3⟩ := hl.row _ e
      rw [show W.heap[w.heap.size]? = _ from h.blk] at e3
      simp at e3
    · obtain ⟨_, _, c, e3⟩ := hL b e2.symm
      obtain ⟨_, _, c', e4⟩ := hl.row b e
      rw [e3] at e4
      simp at e4
    · subst e2
      obtain ⟨c, e3⟩ := b3
      rw [show W.heap[w.heap.size]? = _ from h.blk] at e3
      simp at e3
    · obtain ⟨_, _, c, e3⟩ := hL b e2.symm
      obtain ⟨c', e4⟩ := b3
      rw [e3] at e4
      simp at e4
  refine ⟨hd5.set 2 v5 rfl, oth h.live, oth h.safr, ?_, h.ap, pn_bel h.bel hb (fun b e => (hL b e).1) hg 2⟩
  rw [List.replicate_succ']
  refine ownsRow_same h1 (fun b e => Below.heap_setCell w5 ⟨w.heap.size, 2, none⟩ v5 b (fun e2 => ?_))
  subst e2
  obtain ⟨_, _, c, e3⟩ := r5 _ e
  rw [show w5.heap[w.heap.size]? = _ from hd5] at e3
  simp at e3
end
theorem eight {α : Type} {l : List α} (h : l.length = 8) : ∃ a b c d e f g k, l = [a, b, c, d, e, f, g, k] := by
  match l, h with
  | [a, b, c, d, e, f, g, k], _ => exact ⟨a, b, c, d, e, f, g, k, rfl⟩
theorem r8_of {w : World} {base : Nat} {e : TypeId} {v : Value} {xs : List Value} (h : w.ownsRow base e 1 v 8 xs) (hx : xs.length = 8) : ∃ g c, v = .slice (some ⟨g, 0, none⟩) 8 c ∧ R8 w e g c (fun i => xs.getD i (.slice none 0 0)) ∧ base ≤ g := by
  have h' := h
  rcases h.2 with ⟨_, e0⟩ | ⟨g, c, cur, rfl, h2, _⟩
  · omega
  · refine ⟨g, c, rfl, ⟨?_⟩, h2⟩
    have e : l8 (fun i => xs.getD i (.slice none 0 0)) = xs := by
      obtain ⟨x0, x1, x2, x3, x4, x5, x6, x7, rfl⟩ := eight hx
      rfl
    rw [e]
    refine ⟨h'.1, ?_⟩
    rcases h'.2 with h3 | ⟨g', c', cur', e3, h3, h4⟩
    · exact .inl h3
    · exact .inr ⟨g', c', cur', e3, Nat.zero_le _, h4⟩
theorem lc_8 {w : World} {base : Nat} {v : Value} {ls : List (List UInt8)} (h : Lc w base v ls) (hl : ls.length = 8) : ∃ g c f, v = .slice (some ⟨g, 0, none⟩) 8 c ∧ R8 w 37 g c f ∧ base ≤ g ∧ ∀ i, i < 8 → Ow w base (f i) (ls.getD i []) := by
  obtain ⟨ps, h1, h2, h3⟩ := h
  have hp : ps.length = 8 := by rw [← hl, ← h1, List.length_map]
  rw [hp] at h2
  obtain ⟨g, c, e1, e2, e3⟩ := r8_of h2 (by simpa using hp)
  refine ⟨g, c, _, e1, e2, e3, fun i hi => ?_⟩
  have hi' : i < ps.length := by omega
  have := h3 ps[i] (List.getElem_mem hi')
  have ea : (ps.map Prod.snd).getD i (.slice none 0 0) = ps[i].2 := by simp [List.getD, hi']
  have eb : ls.getD i [] = ps[i].1 := by rw [← h1]; simp [List.getD, hi']
  show Ow w base ((ps.map Prod.snd).getD i (.slice none 0 0)) _
  rw [ea, eb]
  exact this
open Classical in
/-- All is there: it is the page's disk. -/
theorem PnI.done {w W : World} {ls : List (List UInt8)} {LV SV NV : Value} (h : PnI w ls 8 8 8 W LV SV NV) : ∃ O, PKw W O w.heap.size (dsN ls 8) ∧ (∀ b, O b ≠ 0 → w.heap.size ≤ b) := by
  obtain ⟨gl, cl, lv, rfl, rl, bl, ol⟩ := lc_8 h.live (pr8_length _ _)
  obtain ⟨gs, cs, sv, rfl, rs, bs, os⟩ := lc_8 h.safr (pr8_length _ _)
  obtain ⟨gn, cn, rfl, rn, bn⟩ := r8_of h.new (by simp)
  have hd := h.blk
  obtain ⟨c1, e1⟩ := rl.blk
  obtain ⟨c2, e2⟩ := rs.blk
  obtain ⟨c3, e3⟩ := rn.blk
  have d1 : gl ≠ w.heap.size := fun e => by rw [e, show W.heap[w.heap.size]? = _ from hd] at e1; simp at e1
  have d2 : gs ≠ w.heap.size := fun e => by rw [e, show W.heap[w.heap.size]? = _ from hd] at e2; simp at e2
  have d3 : gn ≠ w.heap.size := fun e => by rw [e, show W.heap[w.heap.size]? = _ from hd] at e3; simp at e3
  have d4 : gs ≠ gl := fun e => h.ap gl (by simp [Value.ownBlock]) (by simp [Value.ownBlock, e])
  have d5 : gn ≠ gl := fun e => by rw [e, e1] at e3; simp at e3
  have d6 : gn ≠ gs := fun e => by rw [e, e2] at e3; simp at e3
  obtain ⟨O, hO⟩ : ∃ O : Nat → Nat, O = fun b => if b = w.heap.size then 1 else if b = gl then 2 else if b = gs then 3 else if b = gn then 4 else if w.heap.size ≤ b ∧ ∃ cur, W.heap[b]? = some (.cells cur 5) then 5 else 0 := ⟨_, rfl⟩
  have o1 : O w.heap.size = 1 := by rw [hO]; exact if_pos rfl
  have o2 : O gl = 2 := by rw [hO]; exact (if_neg d1).trans (if_pos rfl)
  have o3 : O gs = 3 := by rw [hO]; exact (if_neg d2).trans ((if_neg d4).trans (if_pos rfl))
  have o4 : O gn = 4 := by rw [hO]; exact (if_neg d3).trans ((if_neg d5).trans ((if_neg d6).trans (if_pos rfl)))
  have o5 : ∀ b, w.heap.size ≤ b → (∃ cur, W.heap[b]? = some (.cells cur 5)) → O b = 5 := fun b h1 ⟨c, h2⟩ => by
    rw [hO]
    refine (if_neg (fun e => ?_)).trans ((if_neg (fun e => ?_)).trans ((if_neg (fun e => ?_)).trans ((if_neg (fun e => ?_)).trans (if_pos ⟨h1, c, h2⟩))))
    · rw [e, show W.heap[w.heap.size]? = _ from hd] at h2; simp at h2
    · rw [e, e1] at h2; simp at h2
    · rw [e, e2] at h2; simp at h2
    · rw [e, e3] at h2; simp at h2
  have fact : ∀ b, O b ≠ 0 → w.heap.size ≤ b ∧ ∃ o, W.heap[b]? = some o ∧ o.isCells = true := fun b hb => by
    rw [hO] at hb
    simp only [] at hb
    by_cases a1 : b = w.heap.size
    · subst a1; exact ⟨Nat.le_refl _, _, hd, rfl⟩
    rw [if_neg a1] at hb
    by_cases a2 : b = gl
    · subst a2; exact ⟨bl, _, e1, rfl⟩
    rw [if_neg a2] at hb
    by_cases a3 : b = gs
    · subst a3; exact ⟨bs, _, e2, rfl⟩
    rw [if_neg a3] at hb
    by_cases a4 : b = gn
    · subst a4; exact ⟨bn, _, e3, rfl⟩
    rw [if_neg a4] at hb
    by_cases a5 : w.heap.size ≤ b ∧ ∃ cur, W.heap[b]? = some (.cells cur 5)
    · obtain ⟨h1, c, h2⟩ := a5; exact ⟨h1, _, h2, rfl⟩
    · rw [if_neg a5] at hb; exact absurd rfl hb
  have ep : ∀ i, i < 8 → (pr8 ls 8).getD i [] = ls.getD i [] := fun i hi => by simp [pr8, List.getD, hi]
  have row : ∀ {v : Value} {i : Nat}, i < 8 → Ow W w.heap.size v ((pr8 ls 8).getD i []) → Ow W 0 v (if i < 8 then ls.getD i [] else []) ∧ ∀ b, v.ownBlock = some b → O b = 5 := fun {v i} hi hv =>
    ⟨by rw [if_pos hi, ← ep i hi]; exact hv.base0, fun b e => o5 b (hv.ge e).1 (hv.bytes b e)⟩
  refine ⟨O, PK.w (lv := lv) (sv := sv) (cv := fun i => (List.replicate 8 (Value.slice none 0 0)).getD i (.slice none 0 0)) (left := 0) (bad := 0) (armed := false) (off := false) (hurt := false) ⟨hd, rl, rs, rn, fun i hi => row hi (ol i hi), fun i hi => row hi (os i hi), fun i hi => ?_, fun i hi b e => ?_, o1, o2, o3, o4, fun b hb => (fact b hb).2, ⟨rfl, fun _ => ⟨rfl, fun h => absurd rfl h⟩, fun _ => ⟨rfl, fun h => absurd rfl h⟩⟩⟩, fun b hb => (fact b hb).1⟩
  · have e9 : (List.replicate 8 (Value.slice none 0 0)).getD i (.slice none 0 0) = .slice none 0 0 := by rcases lt8 hi with rfl | rfl | rfl | rfl | rfl | rfl | rfl | rfl <;> rfl
    show PCv W O ((List.replicate 8 (Value.slice none 0 0)).getD i (.slice none 0 0)) []
    rw [e9]
    exact PCv.nil _ _
  · have e9 : (List.replicate 8 (Value.slice none 0 0)).getD i (.slice none 0 0) = .slice none 0 0 := by rcases lt8 hi with rfl | rfl | rfl | rfl | rfl | rfl | rfl | rfl <;> rfl
    have e' : ((List.replicate 8 (Value.slice none 0 0)).getD i (.slice none 0 0)).ownBlock = some b := e
    rw [e9] at e'
    simp [Value.ownBlock] at e'
end Go.Proofs.Ytljhhdpeakencaa
end

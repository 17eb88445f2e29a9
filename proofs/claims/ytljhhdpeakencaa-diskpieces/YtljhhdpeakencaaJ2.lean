/- Texts joined: DkC DkD New9. -/
import Derived.Test.YtljhhdpeakencaaJ1
section
set_option linter.unusedSimpArgs false
set_option linter.unusedVariables false
namespace Go.Proofs.Ytljhhdpeakencaa
open Go.RowKit

/-! Read, Cut. -/
def rdE (D : Ds) (f at_ n : Int) : Int := if fndE D.off f ≠ 0 then fndE D.off f else if at_ < 0 ∨ n < 0 ∨ ((D.now f.toNat).length : Int) < at_ ∨ ((D.now f.toNat).length : Int) - at_ < n then 1 else 0
def rdV (D : Ds) (f at_ n : Int) : List UInt8 := if rdE D f at_ n = 0 then ((D.now f.toNat).drop at_.toNat).take n.toNat else []
/-- A piece of a row, as a cut of it lies. -/
theorem Rb.mid {w : World} {ad : Option Addr} {n cap a m : Nat} {l : List UInt8} (h : Rb w (.slice ad n cap) l) (ham : a + m ≤ l.length) : Rb w (.slice (Option.map (fun x => x.add a) ad) m (cap - a)) ((l.drop a).take m) := by
  have hlen : ((l.drop a).take m).length = m := by simp; omega
  obtain ⟨ad', cap', e, hle, hm, hc⟩ := h
  simp at e
  obtain ⟨rfl, rfl, rfl⟩ := e
  refine ⟨_, cap - a, by rw [hlen], by omega, by omega, fun i hi => ?_⟩
  have him : i < m := by omega
  obtain ⟨b, off, rfl, hx⟩ := hc (a + i) (by omega)
  refine ⟨b, off + a, by rw [Option.map_some, Addr.add_mid], ?_⟩
  rw [Nat.add_assoc, hx]
  simp
theorem Rb.none {w : World} (ad : Option Addr) (n cap m : Nat) (l : List UInt8) (hl : l.length = n) (hn : n = 0) : Rb w (.slice ad n cap) l := by
  subst hn
  obtain rfl := List.length_eq_zero_iff.1 hl
  exact ⟨ad, cap, rfl, Nat.zero_le _, by simp, fun i hi => by simp at hi⟩
set_option maxRecDepth 100000 in
set_option maxHeartbeats 2000000 in
theorem read9 (w : World) (O : Nat → Nat) (d : Nat) (D : Ds) (nv sv cv : Nat → Value) (f at_ n : Int) (h : DK w O d D nv sv cv) (hl : ∀ i, i < 8 → (D.now i).length ≤ 1099511627776) (h1 : -9223372036854775808 ≤ n ∧ n ≤ 9223372036854775807) (h2 : -9223372036854775808 ≤ at_ ∧ at_ ≤ 9223372036854775807) :
    Calls Try.prog 32 #[.pointer (some ⟨d, 0, none⟩), .int .i64 f, .int .i64 at_, .int .i64 n] w fun e w' => ∃ v', e = .returned (.tuple #[v', .int .i64 (rdE D f at_ n)]) ∧ Ow w' w.heap.size v' (rdV D f at_ n) ∧ Below w.heap.size w w' := by
  have HF := find w d D.off f h.c24 h.blk.lt
  by_cases h0 : fndE D.off f = 0
  · obtain ⟨ho, i, rfl, hi, hp⟩ := fnd_ok (d := d) h0
    rw [hp, h0] at HF
    obtain ⟨ad, cap, env, hle⟩ := (h.now i hi).shape
    have c0 : w.cell? ⟨d, i * 3, none⟩ = some (.slice ad (D.now i).length cap) := by rw [← env]; exact (h.blk.cell _).trans (dkc_now _ _ _ _ _ _ hi)
    have how : Ow w 0 (.slice ad (D.now i).length cap) (D.now i) := env ▸ h.now i hi
    have HOw : Hid (Ow w 0 (.slice ad (D.now i).length cap) (D.now i)) := how
    have hli := hl i hi
    have HF : Hid _ := HF
    have eE : rdE D (i : Int) at_ n = if at_ < 0 ∨ n < 0 ∨ ((D.now i).length : Int) < at_ ∨ ((D.now i).length : Int) - at_ < n then 1 else 0 := by unfold rdE; rw [if_neg (by rw [h0]; simp), Int.toNat_natCast]
    unfold rdV
    rw [eE, Int.toNat_natCast]
    clear eE h hl env hp ho h0 how
    generalize hlr : D.now i = row at *
    by_cases hc : at_ < 0 ∨ n < 0 ∨ (row.length : Int) < at_ ∨ (row.length : Int) - at_ < n
    · rw [if_pos hc]
      rw [if_neg (by omega)]
      have hdif : 0 ≤ at_ → IntKind.i64.wrap ((row.length : Int) - at_) = (row.length : Int) - at_ := fun _ => IntWalk.i64_in _ (by omega)
      rcases hc with hc | hc | hc | hc
      · go_enter Try.func32, Try.ntmps32
        go_wp2_with (go_at_call 75; refine Calls.mono HF.out ?_; rintro e w8 ⟨rfl, rfl⟩)
        go_ret2
        exact ⟨_, rfl, Ow.nil _ _, Below.refl _ _⟩
      · by_cases hx : at_ < 0
        all_goals
          go_enter Try.func32, Try.ntmps32
          go_wp2_with (go_at_call 75; refine Calls.mono HF.out ?_; rintro e w8 ⟨rfl, rfl⟩)
          go_ret2
          exact ⟨_, rfl, Ow.nil _ _, Below.refl _ _⟩
      · have hx : ¬ at_ < 0 := by omega
        by_cases hy : n < 0
        all_goals
          go_enter Try.func32, Try.ntmps32
          go_wp2_with (go_at_call 75; refine Calls.mono HF.out ?_; rintro e w8 ⟨rfl, rfl⟩)
          go_ret2
          exact ⟨_, rfl, Ow.nil _ _, Below.refl _ _⟩
      · by_cases hx : at_ < 0
        · clear hdif
          go_enter Try.func32, Try.ntmps32
          go_wp2_with (go_at_call 75; refine Calls.mono HF.out ?_; rintro e w8 ⟨rfl, rfl⟩)
          go_ret2
          exact ⟨_, rfl, Ow.nil _ _, Below.refl _ _⟩
        · have hdif := hdif (by omega)
          by_cases hy : n < 0
          · go_enter Try.func32, Try.ntmps32
            go_wp2_with (go_at_call 75; refine Calls.mono HF.out ?_; rintro e w8 ⟨rfl, rfl⟩)
            go_ret2
            exact ⟨_, rfl, Ow.nil _ _, Below.refl _ _⟩
          · by_cases hz : (row.length : Int) < at_
            all_goals
              go_enter Try.func32, Try.ntmps32
              go_wp2_with (go_at_call 75; refine Calls.mono HF.out ?_; rintro e w8 ⟨rfl, rfl⟩)
              go_ret2
              exact ⟨_, rfl, Ow.nil _ _, Below.refl _ _⟩
    · rw [if_neg hc, if_pos rfl]
      obtain ⟨a, rfl⟩ : ∃ a : Nat, at_ = a := ⟨at_.toNat, by omega⟩
      obtain ⟨m, rfl⟩ : ∃ m : Nat, n = m := ⟨n.toNat, by omega⟩
      have g1 : a ≤ row.length := by omega
      have g2 : a + m ≤ row.length := by omega
      have hdif : IntKind.i64.wrap ((row.length : Int) - (a : Int)) = (row.length : Int) - (a : Int) := IntWalk.i64_in _ (by omega)
      have hsum : IntKind.i64.wrap ((a : Int) + (m : Int)) = (a : Int) + (m : Int) := IntWalk.i64_in _ (by omega)
      have hx : ¬ (a : Int) < 0 := by omega
      have hy : ¬ (m : Int) < 0 := by omega
      have hz : ¬ (row.length : Int) < (a : Int) := by omega
      have hq : ¬ (row.length : Int) - (a : Int) < (m : Int) := by omega
      have g3 : a + m ≤ cap := by omega
      have g4 : a ≤ a + m := by omega
      rw [Int.toNat_natCast, Int.toNat_natCast]
      have HC : Hid (∀ v, Rb w v ((row.drop a).take m) → Calls Try.prog 74 #[v] w fun e w' => ∃ v', e = .returned v' ∧ Ow w' w.heap.size v' ((row.drop a).take m) ∧ Below w.heap.size w w') := fun v hv => clone w v _ hv (by simp; omega)
      clear hc
      go_enter Try.func32, Try.ntmps32
      have HMid : Hid (Rb w (.slice (Option.map (fun x => x.add a) ad) m (cap - a)) ((row.drop a).take m)) := (HOw.out.rb (by omega)).mid g2
      have hlen : ((row.drop a).take m).length = m := by simp; omega
      have HLen : Hid (((row.drop a).take m).length = m) := hlen
      clear hlen
      go_wp2_with (first | (go_at_call 75; refine Calls.mono HF.out ?_; rintro e w8 ⟨rfl, rfl⟩) | fail)
      all_goals
        refine (HC.out _ (by first | exact HMid.out | exact Rb.none ad m 0 m _ HLen.out (by omega))).mono ?_
        rintro e w9 ⟨v9, rfl, ho9, hb9⟩
        go_wp2
        go_ret2
        exact ⟨_, rfl, ho9, hb9⟩
  · have e : rdE D f at_ n = fndE D.off f := if_pos h0
    have e2 : rdV D f at_ n = [] := if_neg (by rw [e]; exact h0)
    rw [e, e2]
    rw [fnd_no h0] at HF
    have HF : Hid _ := HF
    have hne : (fndE D.off f != 0) = true := by rw [bne_iff_ne]; exact h0
    clear h e h0 e2 hl
    generalize fndE D.off f = ev at *
    go_enter Try.func32, Try.ntmps32
    go_wp2_with (go_at_call 75; refine Calls.mono HF.out ?_; rintro e w8 ⟨rfl, rfl⟩)
    go_ret2
    exact ⟨_, rfl, Ow.nil _ _, Below.refl _ _⟩
end Go.Proofs.Ytljhhdpeakencaa
end
section
set_option linter.unusedSimpArgs false
set_option linter.unusedVariables false
namespace Go.Proofs.Ytljhhdpeakencaa
open Go.RowKit

/-! Cut. -/
theorem cnt_ok {d : Nat} {D : Ds} {f : Int} (h : cntE D f = 0) : (cnt D).off = false ∧ ∃ i : Nat, f = (i : Int) ∧ i < 8 ∧ cntP d D f = .pointer (some ⟨d, i * 3, none⟩) := by
  have hp : cntP d D f = .pointer (some ⟨d, f.toNat * 3, none⟩) := if_pos h
  unfold cntE at h
  by_cases h1 : (cnt D).off = true
  · rw [if_pos h1] at h; omega
  · rw [if_neg h1] at h
    by_cases h2 : D.tF = 1
    · rw [if_pos h2] at h; omega
    · rw [if_neg h2] at h
      obtain ⟨_, i, e1, e2, _⟩ := fnd_ok (d := d) h
      exact ⟨by simpa using h1, i, e1, e2, by rw [hp, e1, Int.toNat_natCast]⟩
theorem cnt_no {d : Nat} {D : Ds} {f : Int} (h : cntE D f ≠ 0) : cntP d D f = .pointer none := if_neg h
theorem DK.counted {w w' : World} {O : Nat → Nat} {d : Nat} {D : Ds} {nv sv cv : Nat → Value} (h : DK w O d D nv sv cv) (ht : Turn w w' d (dkc nv sv cv (cnt D).off (cnt D).tO (cnt D).tF) 98) : DK w' O d (cnt D) nv sv cv ∧ Fp O w O w' :=
  ⟨h.turn ht (by have := h.bO; simp [cnt]; omega) (by have := h.bF; simp [cnt]; omega), Fp.of_turn ht h.blk (by rw [h.td]; omega)⟩
/-- File i with a change more. -/
def chg (D : Ds) (i : Nat) (c : Ch) : Ds := { D with now := upd D.now i (ovr c (D.now i)), chs := upd D.chs i (D.chs i ++ [c]) }
def cutE (D : Ds) (f n : Int) : Int := if cntE D f ≠ 0 then cntE D f else if n < 0 ∨ ((D.now f.toNat).length : Int) < n then 1 else 0
def cutD (D : Ds) (f n : Int) : Ds := if cutE D f n = 0 then chg (cnt D) f.toNat ⟨true, n.toNat, []⟩ else cnt D
set_option maxRecDepth 100000 in
set_option maxHeartbeats 4000000 in
theorem cut9 (w : World) (O : Nat → Nat) (d : Nat) (D : Ds) (nv sv cv : Nat → Value) (f n : Int) (h : DK w O d D nv sv cv) (hl : ∀ i, i < 8 → (D.now i).length ≤ 1099511627776) (hm : ∀ i, i < 8 → (D.chs i).length ≤ 1099511627776) :
    Calls Try.prog 36 #[.pointer (some ⟨d, 0, none⟩), .int .i64 f, .int .i64 n] w fun e w' => e = .returned (.int .i64 (cutE D f n)) ∧ ∃ O' nv' sv' cv', DK w' O' d (cutD D f n) nv' sv' cv' ∧ Fp O w O' w' := by
  have HF := findC w O d D nv sv cv f h
  have HD : Hid (DK w O d D nv sv cv) := h
  by_cases h0 : cntE D f = 0
  · obtain ⟨ho, i, rfl, hi, hp⟩ := cnt_ok (d := d) h0
    rw [hp, h0] at HF
    have eE : cutE D (i : Int) n = if n < 0 ∨ ((D.now i).length : Int) < n then 1 else 0 := by unfold cutE; rw [if_neg (by rw [h0]; simp), Int.toNat_natCast]
    have hli := hl i hi
    have hmi := hm i hi
    have HF : Hid _ := HF
    by_cases hc : n < 0 ∨ ((D.now i).length : Int) < n
    · rw [if_pos hc] at eE
      have eD : cutD D (i : Int) n = cnt D := if_neg (by rw [eE]; omega)
      rw [eE, eD]
      obtain ⟨ad, cap, env, hle⟩ := (h.now i hi).shape
      have HC0 : Hid (∀ W, Turn w W d (dkc nv sv cv (cnt D).off (cnt D).tO (cnt D).tF) 98 → W.cell? ⟨d, i * 3, none⟩ = some (.slice ad (D.now i).length cap)) := fun W hW => by rw [← env]; exact (hW.blk.cell _).trans (dkc_now _ _ _ _ _ _ hi)
      clear eE eD h env hp h0 ho hl hm
      generalize (D.now i).length = ln at *
      by_cases hx : n < 0
      all_goals
        go_enter Try.func36, Try.ntmps36
        go_wp2_with (go_at_call 77; refine Calls.mono HF.out ?_; rintro e w8 ⟨rfl, ht8⟩; have c8 := HC0.out _ ht8; have H8 : Hid (Turn w w8 d (dkc nv sv cv (cnt D).off (cnt D).tO (cnt D).tF) 98) := ht8; clear ht8)
        go_ret
        exact ⟨rfl, O, nv, sv, cv, HD.out.counted H8.out⟩
    · rw [if_neg hc] at eE
      have eD : cutD D (i : Int) n = chg (cnt D) i ⟨true, n.toNat, []⟩ := by unfold cutD; rw [if_pos eE, Int.toNat_natCast]
      rw [eE, eD]
      obtain ⟨m, rfl⟩ : ∃ m : Nat, n = m := ⟨n.toNat, by omega⟩
      rw [Int.toNat_natCast]
      obtain ⟨ad, cap, env, hle⟩ := (h.now i hi).shape
      have HC0 : Hid (∀ W, Turn w W d (dkc nv sv cv (cnt D).off (cnt D).tO (cnt D).tF) 98 → W.cell? ⟨d, i * 3, none⟩ = some (.slice ad (D.now i).length cap)) := fun W hW => by rw [← env]; exact (hW.blk.cell _).trans (dkc_now _ _ _ _ _ _ hi)
      have HDo : Hid (∀ W, Turn w W d (dkc nv sv cv (cnt D).off (cnt D).tO (cnt D).tF) 98 → Calls Try.prog 78 #[.pointer (some ⟨d, i * 3, none⟩), .agg #[.bool true, .int .i64 (m : Int), .slice none 0 0]] W fun e w' => (∃ v, e = .returned v) ∧ ∃ O' nv' cv', DK w' O' d (chg (cnt D) i ⟨true, m, []⟩) nv' sv cv' ∧ Fp O W O' w') := fun W hW =>
        do9 W O d i (cnt D) nv sv cv ⟨true, m, []⟩ (.slice none 0 0) (HD.out.counted hW).1 hi ⟨Ow.nil _ _, fun b hb => by simp [Value.ownBlock] at hb, fun hx => by simp at hx, by simp; omega, _, _, _, rfl⟩ hli hmi
      have HT : Hid (∀ W, Turn w W d (dkc nv sv cv (cnt D).off (cnt D).tO (cnt D).tF) 98 → Fp O w O W) := fun W hW => (HD.out.counted hW).2
      have hx : ¬ (m : Int) < 0 := by omega
      have hy : ¬ ((D.now i).length : Int) < (m : Int) := by omega
      clear eE eD h env hp h0 ho hl hm hc hli hmi
      generalize (D.now i).length = ln at *
      generalize chg (cnt D) i ⟨true, m, []⟩ = D2 at *
      go_enter Try.func36, Try.ntmps36
      go_wp2_with (first | (go_at_call 77; refine Calls.mono HF.out ?_; rintro e w8 ⟨rfl, ht8⟩; have c8 := HC0.out _ ht8; have H8 : Hid (Turn w w8 d (dkc nv sv cv (cnt D).off (cnt D).tO (cnt D).tF) 98) := ht8; clear ht8) | (go_at_call 78; refine (HDo.out _ H8.out).mono ?_; rintro e w9 ⟨⟨v9, rfl⟩, h9⟩))
      go_ret
      obtain ⟨O', nv', cv', r1, r2⟩ := h9
      exact ⟨rfl, O', nv', sv, cv', r1, (HT.out _ H8.out).trans r2⟩
  · have e : cutE D f n = cntE D f := if_pos h0
    have e2 : cutD D f n = cnt D := if_neg (by rw [e]; exact h0)
    rw [e, e2]
    rw [cnt_no h0] at HF
    have HF : Hid _ := HF
    have hne : (cntE D f != 0) = true := by rw [bne_iff_ne]; exact h0
    clear h e h0 e2 hl hm
    generalize cntE D f = ev at *
    go_enter Try.func36, Try.ntmps36
    go_wp2_with (go_at_call 77; refine Calls.mono HF.out ?_; rintro e w8 ⟨rfl, ht8⟩; have H8 : Hid (Turn w w8 d (dkc nv sv cv (cnt D).off (cnt D).tO (cnt D).tF) 98) := ht8; clear ht8)
    go_ret
    exact ⟨rfl, O, nv, sv, cv, HD.out.counted H8.out⟩
end Go.Proofs.Ytljhhdpeakencaa
end
section
set_option linter.unusedSimpArgs false
set_option linter.unusedVariables false
namespace Go.Proofs.Ytljhhdpeakencaa
open Go.RowKit

/-! New. -/
theorem cell_lt {w : World} {a : Addr} {v : Value} (h : w.cell? a = some v) : a.block < w.heap.size := World.block_lt_of_cell? w a h
/-- A list of rows that is read. -/
def Rl (w : World) (v : Value) (ls : List (List UInt8)) : Prop :=
  ∃ ad cap, v = .slice ad ls.length cap ∧ ls.length ≤ cap ∧ ls.length ≤ 9223372036854775807 ∧ ∀ i (h : i < ls.length), ∃ b off rv, ad = some ⟨b, off, none⟩ ∧ w.cell? ⟨b, off + i, none⟩ = some rv ∧ Rb w rv ls[i]
theorem Rl.below {w w' : World} {v : Value} {ls : List (List UInt8)} (h : Rl w v ls) (hb : Below w.heap.size w w') : Rl w' v ls := by
  obtain ⟨ad, cap, rfl, h1, h2, hc⟩ := h
  refine ⟨ad, cap, rfl, h1, h2, fun i hi => ?_⟩
  obtain ⟨b, off, rv, e, hx, hr⟩ := hc i hi
  exact ⟨b, off, rv, e, (hb.cell (World.block_lt_of_cell? w _ hx)).trans hx, hr.below hb⟩
def Sml (ls : List (List UInt8)) : Prop := ∀ l ∈ ls, l.length ≤ 131072
def SmlTo (ls : List (List UInt8)) (n : Nat) : Prop := ∀ k (h : k < ls.length), k < n → ls[k].length ≤ 131072
def newOk (ls : List (List UInt8)) : Prop := (ls.length = 0 ∨ ls.length = 8) ∧ ∀ l ∈ ls, l.length ≤ 131072
def dsN (ls : List (List UInt8)) (n : Nat) : Ds := ⟨fun i => if i < n then ls.getD i [] else [], fun i => if i < n then ls.getD i [] else [], fun _ => [], false, 0, 0⟩
abbrev nil9 : Nat → Value := fun _ => .slice none 0 0
theorem DK.newStep {w w' : World} {O : Nat → Nat} {d i : Nat} {D : Ds} {nv sv cv : Nat → Value} (h : DK w O d D nv sv cv) (hi : i < 8) {v1 v2 : Value} {r : List UInt8}
    (hblk : Bk w' d (dkc (upd nv i v1) (upd sv i v2) (upd cv i (.slice none 0 0)) D.off D.tO D.tF) 98) (h1 : Ow w' 0 v1 r) (h2 : Ow w' 0 v2 r) (f1 : ∀ b, v1.ownBlock = some b → w.heap.size ≤ b) (f2 : ∀ b, v2.ownBlock = some b → w.heap.size ≤ b) (f3 : ∀ b, v1.ownBlock = some b → v2.ownBlock ≠ some b)
    (hk : ∀ k, k < w.heap.size → k ≠ d → w'.heap[k]? = w.heap[k]?) :
    ∃ O', DK w' O' d { D with now := upd D.now i r, safe := upd D.safe i r, chs := upd D.chs i [] } (upd nv i v1) (upd sv i v2) (upd cv i (.slice none 0 0)) ∧ ∀ b, O' b ≠ 0 → O b ≠ 0 ∨ w.heap.size ≤ b := by
  have ne : ∀ b, b < w.heap.size → O b ≠ 26 → w'.heap[b]? = w.heap[b]? := fun b hb h1 => hk b hb (fun e => h1 (e ▸ h.td))
  obtain ⟨O', hO⟩ : ∃ O' : Nat → Nat, O' = fun b => if b < w.heap.size then O b else if v1.ownBlock = some b then 2 * i + 1 else if v2.ownBlock = some b then 2 * i + 2 else 0 := ⟨_, rfl⟩
  have o1 : ∀ b, b < w.heap.size → O' b = O b := fun b hb => by rw [hO]; simp only []; rw [if_pos hb]
  have o2 : ∀ b, O b ≠ 0 → O' b = O b := fun b hb => o1 b (h.lt b hb)
  refine ⟨O', ⟨hblk, fun j hj => ?_, fun j hj => ?_, fun j hj => ?_, fun j hj b e => ?_, fun j hj b e => ?_, fun j hj b e => ?_, by rw [o2 d (by rw [h.td]; omega)]; exact h.td, fun b hb => ?_, h.bO, h.bF⟩, fun b hb => ?_⟩
  · by_cases e : j = i
    · subst e; simp only [upd_same]; exact h1
    · simp only [upd_other _ _ e]
      exact (h.now j hj).same fun b e' => by have ht := h.tn j hj b e'; exact ne b (h.lt b (by omega)) (by omega)
  · by_cases e : j = i
    · subst e; simp only [upd_same]; exact h2
    · simp only [upd_other _ _ e]
      exact (h.safe j hj).same fun b e' => by have ht := h.ts j hj b e'; exact ne b (h.lt b (by omega)) (by omega)
  · by_cases e : j = i
    · subst e; simp only [upd_same]; exact Cv.nil _ _
    · simp only [upd_other _ _ e]
      exact (h.chs j hj).same (fun b e' => by have ht := h.tc j hj b e'; exact ne b (h.lt b (by omega)) (by omega)) (fun b e hb => ⟨ne b hb (by omega), by rw [o1 b hb]; exact e⟩)
  · by_cases e' : j = i
    · subst e'
      simp only [upd_same] at e
      rw [hO]; simp only []; rw [if_neg (by have := f1 b e; omega), if_pos e]
    · simp only [upd_other _ _ e'] at e
      have ht := h.tn j hj b e
      rw [o2 b (by omega)]; exact ht
  · by_cases e' : j = i
    · subst e'
      simp only [upd_same] at e
      rw [hO]; simp only []; rw [if_neg (by have := f2 b e; omega), if_neg (fun e1 => f3 b e1 e), if_pos e]
    · simp only [upd_other _ _ e'] at e
      have ht := h.ts j hj b e
      rw [o2 b (by omega)]; exact ht
  · by_cases e' : j = i
    · subst e'; simp only [upd_same] at e; simp [Value.ownBlock] at e
    · simp only [upd_other _ _ e'] at e
      have ht := h.tc j hj b e
      rw [o2 b (by omega)]; exact ht
  · rw [hO] at hb
    simp only [] at hb
    by_cases e : b < w.heap.size
    · rw [if_pos e] at hb
      by_cases e4 : b = d
      · subst e4; exact ⟨_, hblk, rfl⟩
      · rw [hk b e e4]; exact h.cel b hb
    · rw [if_neg e] at hb
      by_cases e1 : v1.ownBlock = some b
      · obtain ⟨c, e2⟩ := h1.bytes b e1; exact ⟨_, e2, rfl⟩
      · rw [if_neg e1] at hb
        by_cases e1 : v2.ownBlock = some b
        · obtain ⟨c, e2⟩ := h2.bytes b e1; exact ⟨_, e2, rfl⟩
        · rw [if_neg e1] at hb; exact absurd rfl hb
  · by_cases e : b < w.heap.size
    · rw [o1 b e] at hb; exact .inl hb
    · exact .inr (by omega)
theorem dk_new (w : World) : DK (w.alloc (.cells (dkc nil9 nil9 nil9 false 0 0) 98)) (fun b => if b = w.heap.size then 26 else 0) w.heap.size (dsN [] 0) nil9 nil9 nil9 :=
  ⟨Bk.new _ _ _, fun i _ => Ow.nil _ _, fun i _ => Ow.nil _ _, fun i _ => Cv.nil _ _, fun i _ b e => by simp [Value.ownBlock] at e, fun i _ b e => by simp [Value.ownBlock] at e, fun i _ b e => by simp [Value.ownBlock] at e, if_pos rfl, fun b hb => by
    by_cases e : b = w.heap.size
    · subst e; exact ⟨_, Bk.new _ _ _, rfl⟩
    · have hb' : (if b = w.heap.size then 26 else 0) ≠ 0 := hb
      rw [if_neg e] at hb'; exact absurd rfl hb', by simp [dsN], by simp [dsN]⟩
set_option maxRecDepth 100000 in
set_option maxHeartbeats 4000000 in
theorem new_no (w : World) (v : Value) (ls : List (List UInt8)) (h : Rl w v ls) (hn : ¬ (ls.length = 0 ∨ ls.length = 8)) :
    Calls Try.prog 23 #[v] w fun e w' => e = .returned (.tuple #[.pointer none, .int .i64 1]) ∧ Below w.heap.size w w' := by
  obtain ⟨ad, cap, rfl, h1, h2, hc⟩ := h
  have n0 : ((ls.length : Int) != 0) = true := by rw [bne_iff_ne]; omega
  have n8 : ((ls.length : Int) != 8) = true := by rw [bne_iff_ne]; omega
  clear hc
  go_enter Try.func23, Try.ntmps23
  go_wp2
  go_ret2
  exact ⟨rfl, Below.refl _ _⟩
theorem ow_up {w : World} {base base' : Nat} {v : Value} {l : List UInt8} (h : Ow w base' v l) (hb : base ≤ base') : Ow w base v l := by
  refine ⟨h.1, ?_⟩
  rcases h.2 with h2 | ⟨g, cap, cur, e, h3, h4, h5⟩
  · exact .inl h2
  · exact .inr ⟨g, cap, cur, e, Nat.le_trans hb h3, h4, h5⟩
/-- So many rows were laid. -/
structure NwI (w : World) (ls : List (List UInt8)) (n : Nat) (W : World) : Prop where
  ex : ∃ O nv sv cv, DK W O w.heap.size (dsN ls n) nv sv cv ∧ (∀ b, O b ≠ 0 → w.heap.size ≤ b) ∧ Below w.heap.size w W
theorem nw_step {w W A : World} {O : Nat → Nat} {ls : List (List UInt8)} {n : Nat} {nv sv cv : Nat → Value} (h : DK W O w.heap.size (dsN ls n) nv sv cv) (hO : ∀ b, O b ≠ 0 → w.heap.size ≤ b) (hW : Below w.heap.size w W) (hn : n < 8) {v1 v2 : Value}
    (hb : Below W.heap.size W A) (h1 : Ow A W.heap.size v1 (ls.getD n [])) (h2 : Ow A W.heap.size v2 (ls.getD n [])) (f3 : ∀ b, v1.ownBlock = some b → v2.ownBlock ≠ some b) :
    NwI w ls (n + 1) (((A.setCell ⟨w.heap.size, n * 3, none⟩ v1).setCell ⟨w.heap.size, n * 3 + 1, none⟩ v2).setCell ⟨w.heap.size, n * 3 + 2, none⟩ (.slice none 0 0)) := by
  have hwd : w.heap.size < W.heap.size := h.blk.lt
  have oth : ∀ k, k ≠ w.heap.size → (((A.setCell ⟨w.heap.size, n * 3, none⟩ v1).setCell ⟨w.heap.size, n * 3 + 1, none⟩ v2).setCell ⟨w.heap.size, n * 3 + 2, none⟩ (.slice none 0 0)).heap[k]? = A.heap[k]? := fun k hk =>
    (Below.heap_setCell _ _ _ k hk).trans ((Below.heap_setCell _ _ _ k hk).trans (Below.heap_setCell _ _ _ k hk))
  have z : ∀ {v : Value} {l : List UInt8}, Ow A W.heap.size v l → Ow (((A.setCell ⟨w.heap.size, n * 3, none⟩ v1).setCell ⟨w.heap.size, n * 3 + 1, none⟩ v2).setCell ⟨w.heap.size, n * 3 + 2, none⟩ (.slice none 0 0)) 0 v l := fun {v l} hv => by
    have : Ow A 0 v l := by
      refine ⟨hv.1, ?_⟩
      rcases hv.2 with h2 | ⟨g, cap, cur, e, h3, h4, h5⟩
      · exact .inl h2
      · exact .inr ⟨g, cap, cur, e, Nat.zero_le _, h4, h5⟩
    exact this.same fun b e => oth b (by have := (hv.ge e).1; omega)
  obtain ⟨O', r1, r2⟩ := h.newStep hn (v1 := v1) (v2 := v2) (r := ls.getD n []) (((((h.blk.below hb h.blk.lt).set _ _ (dkc_setN _ _ _ _ _ _ hn v1)).set _ _ (dkc_setS _ _ _ _ _ _ hn v2)).set _ _ (dkc_setC _ _ _ _ _ _ hn (.slice none 0 0)))) (z h1) (z h2) (fun b e => (h1.ge e).1) (fun b e => (h2.ge e).1) f3
    (fun k hk n1 => (oth k n1).trans (hb.block k hk))
  have e : { dsN ls n with now := upd (dsN ls n).now n (ls.getD n []), safe := upd (dsN ls n).safe n (ls.getD n []), chs := upd (dsN ls n).chs n [] } = dsN ls (n + 1) := by
    have e1 : upd (fun i => if i < n then ls.getD i [] else []) n (ls.getD n []) = fun i => if i < n + 1 then ls.getD i [] else [] := by
      funext i
      unfold upd
      by_cases h6 : i = n
      · subst h6; simp
      · rw [if_neg h6]
        by_cases h7 : i < n
        · simp only []; rw [if_pos h7, if_pos (by omega)]
        · simp only []; rw [if_neg h7, if_neg (by omega)]
    have e2 : upd (fun _ : Nat => ([] : List Ch)) n [] = fun _ => [] := by funext i; unfold upd; split <;> rfl
    unfold dsN
    simp only [e1, e2]
  rw [e] at r1
  refine ⟨⟨O', upd nv n v1, upd sv n v2, upd cv n (.slice none 0 0), r1, fun b hb' => ?_, ((hW.trans (hb.mono hW.size)).setCell (p := ⟨w.heap.size, n * 3, none⟩) (Nat.le_refl _) _ |>.setCell (p := ⟨w.heap.size, n * 3 + 1, none⟩) (Nat.le_refl _) _ |>.setCell (p := ⟨w.heap.size, n * 3 + 2, none⟩) (Nat.le_refl _) _)⟩⟩
  rcases r2 b hb' with h | h
  · exact hO b h
  · omega
set_option maxRecDepth 100000 in
set_option maxHeartbeats 4000000 in
theorem new9 (w : World) (v : Value) (ls : List (List UInt8)) (h : Rl w v ls) (hn : ls.length = 0 ∨ ls.length = 8) :
    Calls Try.prog 23 #[v] w fun e w' => Below w.heap.size w w' ∧ ((¬ Sml ls ∧ e = .returned (.tuple #[.pointer none, .int .i64 1])) ∨ (Sml ls ∧ e = .returned (.tuple #[.pointer (some ⟨w.heap.size, 0, none⟩), .int .i64 0]) ∧ NwI w ls ls.length w')) := by
  have HL : Hid (Rl w v ls) := h
  obtain ⟨ad, cap, rfl, h1, h2, hc⟩ := h
  have HC : Hid (∀ i (h : i < ls.length), ∃ b off rv, ad = some ⟨b, off, none⟩ ∧ w.cell? ⟨b, off + i, none⟩ = some rv ∧ Rb w rv ls[i]) := hc
  have hn8 : ls.length ≤ 8 := by omega
  have HN : Hid (ls.length = 0 ∨ ls.length = 8) := hn
  have h0 : NwI w ls 0 (w.alloc (.cells (dkc nil9 nil9 nil9 false 0 0) 98)) := by
    refine ⟨⟨fun b => if b = w.heap.size then 26 else 0, nil9, nil9, nil9, ?_, fun b hb => ?_, (Below.refl _ _).alloc (Nat.le_refl _) _⟩⟩
    · have := dk_new w
      have e : dsN ls 0 = dsN [] 0 := by unfold dsN; simp
      rw [e]; exact this
    · by_cases e : b = w.heap.size
      · omega
      · have hb' : (if b = w.heap.size then 26 else 0) ≠ 0 := hb
        rw [if_neg e] at hb'; exact absurd rfl hb'
  have H0 : Hid (NwI w ls 0 (w.alloc (.cells (dkc nil9 nil9 nil9 false 0 0) 98))) := h0
  clear hc h0 hn
  go_enter Try.func23, Try.ntmps23
  by_cases hz : ls.length = 0
  · obtain rfl : ls = [] := List.length_eq_zero_iff.1 hz
    clear hz HN HC hn8
    go_wp2
    go_loopw [19] (fun i wr => i = .int .i64 0 ∧ NwI w [] 0 wr) (fun i _ => 0)
    case atStart => exact ⟨rfl, H0.out⟩
    case round =>
      obtain ⟨rfl, hI⟩ := hrel
      have HI : Hid (NwI w [] 0 wr) := hI
      have hb0 : Below w.heap.size w wr := by obtain ⟨_, _, _, _, _, _, h⟩ := hI.ex; exact h
      clear H0 hI
      go_wp2
      go_ret2
      exact ⟨hb0, .inr ⟨fun l hl => by simp at hl, rfl, HI.out⟩⟩
  · have h8 : ls.length = 8 := by have := HN.out; omega
    go_wp2
    go_loopw [19] (fun i wr => ∃ n : Nat, n ≤ 8 ∧ i = .int .i64 (n : Int) ∧ NwI w ls n wr ∧ SmlTo ls n) (fun i _ => 8 - (intOf i).toNat)
    case atStart => exact ⟨0, by omega, rfl, H0.out, fun k _ hk => by omega⟩
    case round =>
      clear H0
      obtain ⟨n, hn, rfl, hI, hsm⟩ := hrel
      have HI : Hid (NwI w ls n wr) := hI
      have HSm : Hid (SmlTo ls n) := hsm
      obtain ⟨O, nv, sv, cv, hD, hO, hB⟩ := hI.ex
      have HD : Hid (DK wr O w.heap.size (dsN ls n) nv sv cv ∧ (∀ b, O b ≠ 0 → w.heap.size ≤ b) ∧ Below w.heap.size w wr) := ⟨hD, hO, hB⟩
      by_cases hlt : n < 8
      · have hlt' : (n : Int) < 8 := by omega
        obtain ⟨b, off, rv, e1, hx, hrb⟩ := HC.out n (by omega)
        subst e1
        have hxw := (hB.cell (cell_lt hx)).trans hx
        have hrw := hrb.below hB
        obtain ⟨ra, rc, erv, hrle, hrm, hrc⟩ := hrb
        subst erv
        have HRb : Hid (Rb wr (.slice ra ls[n].length rc) ls[n]) := hrw
        have hgd : ls.getD n [] = ls[n] := by simp [List.getD, List.getElem?_eq_getElem (show n < ls.length by omega)]
        have hgl : ls[n].length = (ls[n]'(by omega)).length := rfl
        by_cases hbig : 131072 < ls[n].length
        · have hbig' : (131072 : Int) < (ls[n].length : Int) := by omega
          have HBad : Hid (¬ Sml ls) := fun h => by have := h _ (List.getElem_mem (show n < ls.length by omega)); omega
          clear hI hsm hD hO hrc hrw hx hrle
          go_wp2
          go_ret2
          exact ⟨hB, .inl ⟨HBad.out, rfl⟩⟩
        · have hbig' : ¬ (131072 : Int) < (ls[n].length : Int) := by omega
          have HNext : Hid (SmlTo ls (n + 1)) := fun k h hk => by
            by_cases e : k = n
            · subst e; omega
            · exact hsm k h (by omega)
          have HCl : Hid (∀ W', Below wr.heap.size wr W' → Calls Try.prog 74 #[.slice ra ls[n].length rc] W' fun e w' => ∃ v', e = .returned v' ∧ Ow w' W'.heap.size v' ls[n] ∧ Below W'.heap.size W' w') := fun W' hW' => clone W' _ _ (HRb.out.below hW') (by omega)
          have hld := hD.blk.lt
          clear hI hsm hD hO hrc hrw hx hrle hrm
          have HSt : Hid (∀ (A : World) (v1 v2 : Value), Below wr.heap.size wr A → Ow A wr.heap.size v1 ls[n] → Ow A wr.heap.size v2 ls[n] → (∀ b, v1.ownBlock = some b → v2.ownBlock ≠ some b) → NwI w ls (n + 1) (((A.setCell ⟨w.heap.size, n * 3, none⟩ v1).setCell ⟨w.heap.size, n * 3 + 1, none⟩ v2).setCell ⟨w.heap.size, n * 3 + 2, none⟩ (.slice none 0 0))) := fun A v1 v2 a1 a2 a3 a4 => nw_step HD.out.1 HD.out.2.1 HD.out.2.2 hlt a1 (by rw [hgd]; exact a2) (by rw [hgd]; exact a3) a4
          have HDb : Hid (Bk wr w.heap.size (dkc nv sv cv (dsN ls n).off (dsN ls n).tO (dsN ls n).tF) 98) := HD.out.1.blk
          clear hgd hgl
          go_upto_region 9 with fail
          refine wp_region_noPanic ?_
          refine wp_region_held_drew (S := fun _ => True) (by kernel_rfl) ?_ (fun hHeld => ?_)
          · ((try dsimp only); try trivial)
          (try dsimp only at hHeld)
          refine wpAnyH_take (i := 0) (oi := ⟨some 27, _, _, _, _, _⟩) (v := ?_) rfl (by kernel_rfl) (by kernel_rfl) (by kernel_rfl) (fun _ _ _ h => h) (Or.inl ⟨by rfl, ?_⟩) (by assumption) ?_
          rotate_left
          · (intro w hSw; (try dsimp only at hSw); go_simp; try (with_reducible rfl))
          (try dsimp only); (try simp only [Act.put, List.setIfInBounds_toArray, List.set_cons_zero, List.set_cons_succ])
          refine wpAnyH_take (i := 1) (oi := ⟨some 28, _, _, _, _, _⟩) (v := ?_) rfl (by kernel_rfl) (by kernel_rfl) (by kernel_rfl) (fun _ _ _ h => h) (Or.inl ⟨by rfl, ?_⟩) (by assumption) ?_
          rotate_left
          · (intro w hSw; (try dsimp only at hSw); go_simp; try (with_reducible rfl))
          (try dsimp only); (try simp only [Act.put, List.setIfInBounds_toArray, List.set_cons_zero, List.set_cons_succ])
          refine wpAnyH_take (i := 2) (oi := ⟨some 29, _, _, _, _, _⟩) (v := ?_) rfl (by kernel_rfl) (by kernel_rfl) (by kernel_rfl) (fun _ _ _ h => h) (Or.inl ⟨by rfl, ?_⟩) (by assumption) ?_
          rotate_left
          · (intro w hSw; (try dsimp only at hSw); go_simp; try (with_reducible rfl))
          (try dsimp only); (try simp only [Act.put, List.setIfInBounds_toArray, List.set_cons_zero, List.set_cons_succ])
          refine wpAnyH_take (i := 4) (oi := ⟨some 31, _, _, _, _, _⟩) (v := ?_) rfl (by kernel_rfl) (by kernel_rfl) (by kernel_rfl) (fun _ _ _ h => h) (Or.inl ⟨by rfl, ?_⟩) (by assumption) ?_
          rotate_left
          · (intro w hSw; (try dsimp only at hSw); go_simp; try (with_reducible rfl))
          (try dsimp only); (try simp only [Act.put, List.setIfInBounds_toArray, List.set_cons_zero, List.set_cons_succ])
          refine wpAnyH_take (i := 7) (oi := ⟨some 34, _, _, _, _, _⟩) (v := ?_) rfl (by kernel_rfl) (by kernel_rfl) (by kernel_rfl) (fun _ _ _ h => h) (Or.inl ⟨by rfl, ?_⟩) (by assumption) ?_
          rotate_left
          · (intro w hSw; (try dsimp only at hSw); go_simp; try (with_reducible rfl))
          (try dsimp only); (try simp only [Act.put, List.setIfInBounds_toArray, List.set_cons_zero, List.set_cons_succ])
          refine wpAnyH_take (i := 8) (oi := ⟨some 35, _, _, _, _, _⟩) (v := ?_) rfl (by kernel_rfl) (by kernel_rfl) (by kernel_rfl) (fun _ _ _ h => h) (Or.inl ⟨by rfl, ?_⟩) (by assumption) ?_
          rotate_left
          · (intro w hSw; (try dsimp only at hSw); go_simp; try (with_reducible rfl))
          (try dsimp only); (try simp only [Act.put, List.setIfInBounds_toArray, List.set_cons_zero, List.set_cons_succ])
          refine wpAnyH_ready (rs := [3]) (by kernel_rfl) (by simp) ?_
          refine AllReadyH.cons (o := ⟨some 30, _, _, _, _, _⟩) rfl (fun K hK => ?_) AllReadyH.nil
          go_simp
          refine (HCl.out wr.drew ((Below.refl _ _).drew)).mono ?_
          rintro e w5 ⟨v5, rfl, ho5, hb5⟩
          obtain ⟨ad5, n5, cap5, rfl⟩ := ownsRow_sl ho5
          refine hK.out _ _ trivial (fun hHeld => ?_)
          clear hK K
          (try dsimp only); (try simp only [Act.put, List.setIfInBounds_toArray, List.set_cons_zero, List.set_cons_succ])
          refine wpAnyH_ready (rs := [5]) (by kernel_rfl) (by simp) ?_
          refine AllReadyH.cons (o := ⟨some 32, _, _, _, _, _⟩) rfl (fun K hK => ?_) AllReadyH.nil
          go_simp
          refine (HCl.out w5 (Below.trans ((Below.refl _ _).drew) hb5)).mono ?_
          rintro e w6 ⟨v6, rfl, ho6, hb6⟩
          obtain ⟨ad6, n6, cap6, rfl⟩ := ownsRow_sl ho6
          have hb56 : Below wr.heap.size wr w6 := (Below.trans ((Below.refl _ _).drew) hb5).trans (hb6.mono hb5.size)
          have HE6 : Hid (NwI w ls (n + 1) _) := HSt.out w6 (.slice ad5 n5 cap5) (.slice ad6 n6 cap6) hb56 (ho5.below hb6 ho5.lt) (ow_up ho6 hb5.size) (fun b e e2 => by have h1 := ho5.lt b e; have h2 := (ho6.ge e2).1; omega)
          have hd6 := HDb.out.below hb56 hld
          have q0 := (hd6.cell _).trans (dkc_now _ _ _ _ _ _ hlt)
          have q1 := (hd6.cell _).trans (dkc_safe _ _ _ _ _ _ hlt)
          have q2 := (hd6.cell _).trans (dkc_chs _ _ _ _ _ _ hlt)
          have qf0 := hd6.frozen (n * 3)
          have qf1 := hd6.frozen (n * 3 + 1)
          have qf2 := hd6.frozen (n * 3 + 2)
          have ql := hd6.lt
          refine hK.out _ _ trivial (fun hHeld => ?_)
          clear hK K ho5 hb5 ho6 hb6 hb56 hd6
          (try dsimp only); (try simp only [Act.put, List.setIfInBounds_toArray, List.set_cons_zero, List.set_cons_succ])
          refine wpAnyH_take (i := 6) (oi := ⟨some 33, _, _, _, _, _⟩) (v := ?_) rfl (by kernel_rfl) (by kernel_rfl) (by kernel_rfl) (fun _ _ _ h => h) (Or.inl ⟨by rfl, ?_⟩) (by assumption) ?_
          rotate_left
          · (intro w hSw; (try dsimp only at hSw); go_simp; try (with_reducible rfl))
          (try dsimp only); (try simp only [Act.put, List.setIfInBounds_toArray, List.set_cons_zero, List.set_cons_succ])
          refine wpAnyH_take (i := 9) (oi := ⟨some 36, _, _, _, _, _⟩) (v := ?_) rfl (by kernel_rfl) (by kernel_rfl) (by kernel_rfl) (fun _ _ _ h => h) (Or.inl ⟨by rfl, ?_⟩) (by assumption) ?_
          rotate_left
          · (intro w hSw; (try dsimp only at hSw); go_simp; try (with_reducible rfl))
          (try dsimp only); (try simp only [Act.put, List.setIfInBounds_toArray, List.set_cons_zero, List.set_cons_succ])
          refine wpAnyH_ready (rs := [10]) (by kernel_rfl) (by simp) ?_
          refine AllReadyH.cons (o := ⟨none, _, _, _, _, _⟩) rfl (fun K hK => ?_) AllReadyH.nil
          go_simp
          refine hK.out _ _ trivial (fun hHeld => ?_)
          clear hK K
          (try dsimp only); (try simp only [Act.put, List.setIfInBounds_toArray, List.set_cons_zero, List.set_cons_succ])
          refine wpAnyH_done (by kernel_rfl) ?_ _
          refine NoPanic.normal ?_
          go_wp2
          go_roundw
          case rel => exact ⟨_, _, _, _, .int .i64 ((n : Int) + 1), ⟨n + 1, by omega, by simp, HE6.out, HNext.out⟩, rfl, rfl, rfl, rfl, rfl⟩
          case measure => simp [intOf]; omega
      · have hlt' : ¬ (n : Int) < 8 := by omega
        obtain rfl : n = 8 := by omega
        clear hI hsm hD hO
        go_wp2
        go_ret2
        exact ⟨hB, .inr ⟨fun l hl => by obtain ⟨k, hk, rfl⟩ := List.getElem_of_mem hl; exact HSm.out k hk (by omega), rfl, by first | exact HI.out | (rw [h8]; exact HI.out)⟩⟩
end Go.Proofs.Ytljhhdpeakencaa
end

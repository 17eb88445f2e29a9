/- Texts joined: ShT ClA ShU Wi9 Fr0 Frm10. -/
import Derived.Test.YtjbhegakgdcldaaShS
import Derived.Test.YtjbhegakgdcldaaJ9
import Derived.Test.YtjbhegakgdcldaaJ0
import Derived.Test.YtjbhegakgdcldaaRows
import Derived.Test.YtjbhegakgdcldaaJ4
import Derived.ProofKit
import Derived.OpenShut
import Derived.ShutString
import Derived.ChangeOld
import Derived.JoinedCond
import Derived.Deep.Slices
import Derived.SliceStrings
import Derived.ChangeSlices
section
set_option linter.unusedSimpArgs false
set_option linter.unusedVariables false
set_option maxRecDepth 100000
namespace Go.Proofs.Ytjbhegakgdcldaa
open Go.RowKit

/-! Open. -/
def shv (d f n : Nat) (v : Value) (fl : Bool) : Array Value := #[.pointer (some ⟨d, 0, none⟩), .int .i64 (f : Int), .int .i64 (n : Int), v, .bool fl]
theorem shv_box (d f n : Nat) (hf : f < 8) (hn : n = 128 ∨ n = 256 ∨ n = 512 ∨ n = 1024) : Box (shv d f n) 0 d f n 90 :=
  ⟨fun _ _ => rfl, fun _ _ => rfl, fun _ _ => rfl, fun _ _ => rfl, fun _ _ => rfl, fun _ _ _ => rfl, fun _ _ _ => rfl, by decide, hf, hn⟩
theorem lieV_fit {l : List UInt8} {n : Nat} (hn : 16 ≤ n) (h : (lieV l n).2 = true) : (lieV l n).1.tx.size + 16 ≤ n := by
  have h0 : pl0.tx.size + 16 ≤ n := by show 0 + 16 ≤ n; omega
  by_cases c0 : l.getD 0 0 = 0
  · rw [lieV_free c0]; exact h0
  · by_cases c1 : l.length < n
    · rw [lieV_short c0 c1]; exact h0
    · by_cases c2 : n - 16 < (l.getD 1 0).toNat * 256 + (l.getD 2 0).toNat
      · rw [lieV_long c0 c1 rfl c2]; exact h0
      · rw [lieV_in c0 c1 rfl c2]
        show ((l.drop 16).take ((l.getD 1 0).toNat * 256 + (l.getD 2 0).toNat)).toArray.size + 16 ≤ n
        rw [List.size_toArray, List.length_take]
        omega
theorem lods_all {n : Nat} : ∀ (xs : List (List UInt8)) (ps : List Pl), lods n xs = some ps → ps.length = xs.length ∧ ∀ i, i < ps.length → ∃ l, (lieV l n).2 = true ∧ ps.getD i pl0 = (lieV l n).1
  | [], ps, h => by
    simp [lods] at h
    subst h
    exact ⟨rfl, fun i hi => by simp at hi⟩
  | b :: xs, ps, h => by
    have h : (if (lieV b n).2 = true then (lods n xs).map ((lieV b n).1 :: ·) else none) = some ps := h
    by_cases hb : (lieV b n).2 = true
    · rw [if_pos hb] at h
      cases hx : lods n xs with
      | none => rw [hx] at h; cases h
      | some qs =>
        rw [hx] at h
        simp at h
        subst h
        obtain ⟨h1, h2⟩ := lods_all xs qs hx
        refine ⟨by simp [h1], fun i hi => ?_⟩
        cases i with
        | zero => exact ⟨b, hb, rfl⟩
        | succ j => exact h2 j (by simpa using hi)
    · rw [if_neg hb] at h; cases h
theorem lod_ok {D : Ds} {f n : Nat} (hn : n = 128 ∨ n = 256 ∨ n = 512 ∨ n = 1024) (h : lodE D f n = 0) : OkP n (lodP D f n) ∧ (lodP D f n).length ≤ 128 := by
  unfold lodE at h
  by_cases h0 : fndE D.off f = 0
  · rw [if_neg (by rw [h0]; simp)] at h
    by_cases h1 : 128 * n < (D.now f).length
    · rw [if_pos h1] at h; omega
    · rw [if_neg h1] at h
      cases hl : lods n (chk n (D.now f)) with
      | none => rw [hl] at h; simp at h
      | some ps =>
        rw [hl] at h
        have hp : lodP D f n = ps := by unfold lodP; rw [hl]; rfl
        have hfit : fits ps = true := Classical.byContradiction fun h9 => by simp only [h9] at h; simp at h
        obtain ⟨h3, h4⟩ := lods_all _ _ hl
        rw [hp]
        refine ⟨⟨fun i hi => ?_, fun i hi hm => ?_⟩, ?_⟩
        · obtain ⟨l, hl1, hl2⟩ := h4 i hi
          rw [hl2]
          exact lieV_fit (by omega) hl1
        · have h5 : fitP ps i = true := by
            unfold fits at hfit
            rw [List.all_eq_true] at hfit
            exact hfit i (by simpa using hi)
          have h6 : ¬ (ps.getD i pl0).m < 2 := fun h9 => by have := UInt8.lt_iff_toNat_lt.1 h9; have e : (2 : UInt8).toNat = 2 := rfl; omega
          refine Classical.byContradiction fun h9 => ?_
          rw [fitP_out h6 rfl (.inr (by omega))] at h5
          cases h5
        · rw [h3, chk_len (by omega)]
          unfold nch
          refine Nat.le_of_lt_succ ((Nat.div_lt_iff_lt_mul (by omega)).2 ?_)
          omega
  · rw [if_pos h0] at h; exact absurd h h0
/-- What an opening tells and leaves. -/
def OpnQ (w : World) (d : Nat) (O : Nat → Nat) (W : World) (f n : Nat) (r : Rs) (e : Ending) (w' : World) : Prop :=
  (r.e ≠ 0 ∧ e = .returned (.tuple #[.pointer none, .int .i64 r.e]) ∧ ∃ O', D1 w w' d O' r.D ∧ Fp O W O' w') ∨
  (r.e = 0 ∧ e = .returned (.tuple #[.pointer (some ⟨W.heap.size, 0, none⟩), .int .i64 0]) ∧ ∃ O' P', SH w w' d O' P' (shv d f n) W.heap.size 90 r.D r.ps false ∧ Fp O W (fun k => O' k + P' k) w')
section
variable {w W W' : World} {O P : Nat → Nat} {d f n : Nat} {D : Ds}
theorem opnR_no (h : lodE D f n ≠ 0) : opnR f n D = ⟨lodE D f n, D, []⟩ := if_pos h
theorem opnR_ok (h : lodE D f n = 0) : opnR f n D = setlR f n D (lodP D f n) := if_neg (by rw [h]; simp)
/-- A new shelf over a disk. -/
theorem sh_new (h : D1 w W d O D) (f n : Nat) : SH w (W.alloc (.cells (shv d f n (.slice none 0 0) false) 90)) d O (fun k => if k = W.heap.size then 1 else 0) (shv d f n) W.heap.size 90 D [] false := by
  have hb : Below W.heap.size W (W.alloc (.cells (shv d f n (.slice none 0 0) false) 90)) := (Below.refl _ W).alloc (Nat.le_refl _) _
  refine ⟨h.below hb, ⟨.slice none 0 0, Bk.new _ _ _, World.ownsRow_nil _ _ _ _, fun k hk => by simp [Value.ownBlock] at hk, if_pos rfl, fun k hk => ?_⟩, fun k hk => ?_, fun k hk => ?_⟩
  · have e : k = W.heap.size := Classical.byContradiction fun h9 => hk (if_neg h9)
    subst e
    exact ⟨_, Bk.new _ _ _, rfl⟩
  · have e : k = W.heap.size := Classical.byContradiction fun h9 => hk (if_neg h9)
    subst e
    exact h.bel.size
  · have e : k = W.heap.size := Classical.byContradiction fun h9 => hk (if_neg h9)
    subst e
    exact h.new (Nat.le_refl _)
theorem opn_fp {O' P' : Nat → Nat} {w' : World} {v : Array Value} {t : TypeId} (hf : Fp (fun k => O k + (if k = W.heap.size then 1 else 0)) (W.alloc (.cells v t)) (fun k => O' k + P' k) w') : Fp O W (fun k => O' k + P' k) w' := by
  have hb : Below W.heap.size W (W.alloc (.cells v t)) := (Below.refl _ W).alloc (Nat.le_refl _) _
  have hs : (W.alloc (.cells v t)).heap.size = W.heap.size + 1 := by simp
  refine ⟨hf.os.trans hb.os, hf.tape.trans hb.tape, hf.output.trans hb.output, by have := hf.size; omega, fun k hk ho => hf.old k (by omega) ?_, fun k hk ho => (hf.keep k (by omega) ?_).trans (hb.block k hk), fun k x h1 h2 => hf.kf k x ((hb.block k (Array.getElem?_eq_some_iff.1 h1).1).trans h1) h2⟩
  · show O k + _ = 0
    rw [ho, if_neg (by omega)]
  · show O k + _ = 0
    rw [ho, if_neg (by omega)]
theorem Fp.first {O1 O2 P2 : Nat → Nat} {A B : World} (h : Fp O1 A (fun k => O2 k + P2 k) B) : Fp O1 A O2 B :=
  ⟨h.os, h.tape, h.output, h.size, fun k hk ho => by have h9 : O2 k + P2 k = 0 := h.old k hk ho; omega, h.keep, h.kf⟩
set_option maxHeartbeats 4000000 in
theorem open10 (h : D1 w W d O D) {q : Nat} (hf : Few D q) (hq : q + 4 ≤ 1000) (f n : Nat) (hf8 : f < 8) (hn : n = 128 ∨ n = 256 ∨ n = 512 ∨ n = 1024) :
    Calls Try.prog 22 #[.pointer (some ⟨d, 0, none⟩), .int .i64 (f : Int), .int .i64 (n : Int)] W (OpnQ w d O W f n (opnR f n D)) := by
  have hx := shv_box d f n hf8 hn
  have hs := sh_new h f n
  have HI : Hid (∀ W, Calls Try.prog 57 #[.int .i64 (n : Int)] W fun e w' => e = .returned (.bool true) ∧ w' = W) := fun W => by
    have := isSlot10 (n : Int) W
    rw [show isSl (n : Int) = true by unfold isSl; exact decide_eq_true (by omega)] at this
    exact this
  have HL : Hid (Calls Try.prog 58 #[.pointer (some ⟨W.heap.size, 0, none⟩)] (W.alloc (.cells (shv d f n (.slice none 0 0) false) 90)) (LodQ w d (shv d f n) W.heap.size 90 O (fun k => if k = W.heap.size then 1 else 0) (W.alloc (.cells (shv d f n (.slice none 0 0) false) 90)) D f n false)) := load10 hx hs hf
  have hfi : ¬ (f : Int) < 0 := by omega
  have hfi8 : ¬ (8 : Int) ≤ (f : Int) := by omega
  by_cases hz : lodE D f n = 0
  · rw [opnR_ok hz]
    obtain ⟨hok, hle⟩ := lod_ok hn hz
    have HS : Hid (∀ w1 O1 P1, SH w w1 d O1 P1 (shv d f n) W.heap.size 90 D (lodP D f n) false → Calls Try.prog 59 #[.pointer (some ⟨W.heap.size, 0, none⟩)] w1 fun e w' => e = .returned (.int .i64 (setlR f n D (lodP D f n)).e) ∧ Post10 w d (shv d f n) W.heap.size 90 O1 P1 w1 (setlR f n D (lodP D f n)).D (setlR f n D (lodP D f n)).ps false w') := fun w1 O1 P1 h1 => settle10 hx h1 hf hq hle hok
    have HPs : Hid (∀ ps', (lodE D f n = 0 → ps' = lodP D f n) → ps' = lodP D f n) := fun ps' h9 => h9 hz
    unfold LodQ at HL
    rw [hz] at HL
    generalize setlR f n D (lodP D f n) = R at *
    have eS : shv d f n (.slice none 0 0) false = #[.pointer (some ⟨d, 0, none⟩), .int .i64 (f : Int), .int .i64 (n : Int), .slice none 0 0, .bool false] := rfl
    rw [eS] at HL
    clear hx hs h hf hok hle hz eS
    by_cases hr : R.e = 0
    · rw [hr] at HS
      go_enter Try.func22, Try.ntmps22
      go_wp2_with (first
        | (go_at_call 57; refine Calls.mono (HI.out _) ?_; rintro e w8 ⟨rfl, hw8⟩; have hw8 := hw8.symm; subst hw8)
        | (go_at_call 58; refine stop10 ?_))
      unfold Hold10
      refine Calls.mono HL.out ?_
      rintro e w9 ⟨rfl, ps9, hps, O9, P9, h9, f9⟩
      obtain rfl := HPs.out ps9 (fun _ => hps trivial)
      have H9 : Hid (SH w w9 d O9 P9 (shv d f n) W.heap.size 90 D (lodP D f n) false ∧ Fp O W (fun k => O9 k + P9 k) w9) := ⟨h9, opn_fp f9⟩
      clear h9 f9 hps
      go_wp2_with (go_at_call 59; refine stop10 ?_)
      unfold Hold10
      refine Calls.mono (HS.out _ _ _ H9.out.1) ?_
      rintro e w10 ⟨rfl, O10, P10, h10, f10⟩
      have H10 : Hid (OpnQ w d O W f n R (.returned (.tuple #[.pointer (some ⟨W.heap.size, 0, none⟩), .int .i64 0])) w10) := .inr ⟨hr, rfl, O10, P10, h10, H9.out.2.trans f10⟩
      clear h10 f10
      go_wp2_with fail
      go_ret2
      exact H10.out
    · have hne : (R.e != 0) = true := by rw [bne_iff_ne]; exact hr
      go_enter Try.func22, Try.ntmps22
      go_wp2_with (first
        | (go_at_call 57; refine Calls.mono (HI.out _) ?_; rintro e w8 ⟨rfl, hw8⟩; have hw8 := hw8.symm; subst hw8)
        | (go_at_call 58; refine stop10 ?_))
      unfold Hold10
      refine Calls.mono HL.out ?_
      rintro e w9 ⟨rfl, ps9, hps, O9, P9, h9, f9⟩
      obtain rfl := HPs.out ps9 (fun _ => hps trivial)
      have H9 : Hid (SH w w9 d O9 P9 (shv d f n) W.heap.size 90 D (lodP D f n) false ∧ Fp O W (fun k => O9 k + P9 k) w9) := ⟨h9, opn_fp f9⟩
      clear h9 f9 hps
      go_wp2_with (go_at_call 59; refine stop10 ?_)
      unfold Hold10
      refine Calls.mono (HS.out _ _ _ H9.out.1) ?_
      rintro e w10 ⟨rfl, O10, P10, h10, f10⟩
      have H10 : Hid (OpnQ w d O W f n R (.returned (.tuple #[.pointer none, .int .i64 R.e])) w10) := .inl ⟨hr, rfl, O10, h10.d1, (H9.out.2.trans f10).first⟩
      clear h10 f10 hr
      go_wp2_with fail
      go_ret2
      exact H10.out
  · rw [opnR_no hz]
    have hne : (lodE D f n != 0) = true := by rw [bne_iff_ne]; exact hz
    have HZ : Hid (lodE D f n ≠ 0) := hz
    unfold LodQ at HL
    have eS : shv d f n (.slice none 0 0) false = #[.pointer (some ⟨d, 0, none⟩), .int .i64 (f : Int), .int .i64 (n : Int), .slice none 0 0, .bool false] := rfl
    rw [eS] at HL
    clear hx hs h hf hz eS
    generalize lodE D f n = ev at *
    go_enter Try.func22, Try.ntmps22
    go_wp2_with (first
      | (go_at_call 57; refine Calls.mono (HI.out _) ?_; rintro e w8 ⟨rfl, hw8⟩; have hw8 := hw8.symm; subst hw8)
      | (go_at_call 58; refine stop10 ?_))
    unfold Hold10
    refine Calls.mono HL.out ?_
    rintro e w9 ⟨rfl, ps9, hps, O9, P9, h9, f9⟩
    have H10 : Hid (OpnQ w d O W f n ⟨ev, D, []⟩ (.returned (.tuple #[.pointer none, .int .i64 ev])) w9) := .inl ⟨HZ.out, rfl, O9, h9.d1, (opn_fp f9).first⟩
    clear h9 f9 hps
    go_wp2_with fail
    go_ret2
    exact H10.out
/-- Where there can be none. -/
theorem open_no (W : World) (dv : Value) (f n : Int) (hd : dv = .pointer none ∨ ((∃ d, dv = .pointer (some ⟨d, 0, none⟩)) ∧ (f < 0 ∨ 8 ≤ f ∨ isSl n = false))) :
    Calls Try.prog 22 #[dv, .int .i64 f, .int .i64 n] W fun e w' => e = .returned (.tuple #[.pointer none, .int .i64 1]) ∧ w' = W := by
  rcases hd with rfl | ⟨⟨d, rfl⟩, hd⟩
  · go_enter Try.func22, Try.ntmps22
    go_wp2_with fail
    go_ret2
    exact ⟨rfl, rfl⟩
  · by_cases h1 : f < 0
    · clear hd
      go_enter Try.func22, Try.ntmps22
      go_wp2_with fail
      go_ret2
      exact ⟨rfl, rfl⟩
    · by_cases h2 : 8 ≤ f
      · clear hd
        go_enter Try.func22, Try.ntmps22
        go_wp2_with fail
        go_ret2
        exact ⟨rfl, rfl⟩
      · have hi : isSl n = false := by rcases hd with h | h | h <;> first | omega | exact h
        have HI : Hid (∀ W, Calls Try.prog 57 #[.int .i64 n] W fun e w' => e = .returned (.bool false) ∧ w' = W) := fun W => by
          have := isSlot10 n W
          rw [hi] at this
          exact this
        clear hd hi
        go_enter Try.func22, Try.ntmps22
        go_wp2_with (go_at_call 57; refine Calls.mono (HI.out _) ?_; rintro e w8 ⟨rfl, hw8⟩; have hw8 := hw8.symm; subst hw8)
        go_ret2
        exact ⟨rfl, rfl⟩
end
end Go.Proofs.Ytjbhegakgdcldaa
end
section
set_option linter.unusedSimpArgs false
set_option linter.unusedVariables false
set_option maxRecDepth 100000
namespace Go.Proofs.Ytjbhegakgdcldaa
open Go.RowKit

/-! A disk that is on, with nothing armed and nothing unsynced: what a shelf's calls make of it. -/
structure Calm (D : Ds) : Prop where
  off : D.off = false
  tO : D.tO = 0
  tF : D.tF = 0
  chs : ∀ i, i < 8 → D.chs i = []
  inv : Inv D
theorem Calm.few {D : Ds} (h : Calm D) (q : Nat) : Few D q := ⟨h.inv, fun i hi => by rw [h.chs i hi]; simp⟩
theorem Calm.fnd {D : Ds} (h : Calm D) {f : Nat} (hf : f < 8) : fndE D.off f = 0 := by
  unfold fndE
  rw [h.off, if_neg (by simp), if_neg (by omega)]
theorem Calm.cntE {D : Ds} (h : Calm D) {f : Nat} (hf : f < 8) : cntE D f = 0 := by
  unfold Go.Proofs.Ytjbhegakgdcldaa.cntE
  have h1 : (cnt D).off = false := by show (D.off || decide (D.tO = 1)) = false; rw [h.off, h.tO]; rfl
  rw [if_neg (by rw [h1]; simp), if_neg (by rw [h.tF]; omega)]
  unfold fndE
  rw [if_neg (by simp), if_neg (by omega)]
theorem Calm.wrE {D : Ds} (h : Calm D) {f p k : Nat} (hf : f < 8) (hp : p ≤ (D.now f).length) (hk : p + k ≤ 131072) : wrE D f p k = 0 := by
  unfold Go.Proofs.Ytjbhegakgdcldaa.wrE
  rw [if_neg (by rw [h.cntE hf]; simp), Int.toNat_natCast, if_neg (by omega), if_neg (by omega)]
theorem Calm.swE {D : Ds} (h : Calm D) {f p : Nat} {bs : List UInt8} (hf : f < 8) (hp : p ≤ (D.now f).length) (hk : p + bs.length ≤ 131072) : swE D f p bs = 0 := by
  have hw := h.wrE hf hp hk
  have e : Go.Proofs.Ytjbhegakgdcldaa.swE D f p bs = Go.Proofs.Ytjbhegakgdcldaa.cntE (wrD D f p bs) f := if_neg (by rw [hw]; simp)
  rw [e]
  obtain ⟨c1, c2, c3⟩ : (wrD D f p bs).off = false ∧ (wrD D f p bs).tO = 0 ∧ (wrD D f p bs).tF = 0 := by
    rw [wrD_ok hw]
    refine ⟨?_, ?_, ?_⟩
    · show (D.off || decide (D.tO = 1)) = false; rw [h.off, h.tO]; rfl
    · show D.tO - 1 = 0; rw [h.tO]
    · show D.tF - 1 = 0; rw [h.tF]
  unfold Go.Proofs.Ytjbhegakgdcldaa.cntE
  have h1 : (cnt (wrD D f p bs)).off = false := by show ((wrD D f p bs).off || decide ((wrD D f p bs).tO = 1)) = false; rw [c1, c2]; rfl
  rw [if_neg (by rw [h1]; simp), if_neg (by rw [c3]; omega)]
  unfold fndE
  rw [if_neg (by simp), if_neg (by omega)]
/-- What such a write makes of the file. -/
def wrt (r : List UInt8) (p : Nat) (bs : List UInt8) : List UInt8 := r.take p ++ bs ++ r.drop (p + bs.length)
theorem wrt_len {r bs : List UInt8} {p : Nat} (h : p ≤ r.length) : (wrt r p bs).length = max r.length (p + bs.length) := by
  unfold wrt
  simp only [List.length_append, List.length_take, List.length_drop]
  omega
theorem Calm.sw {D : Ds} (h : Calm D) {f p : Nat} {bs : List UInt8} (hf : f < 8) (hp : p ≤ (D.now f).length) (hk : p + bs.length ≤ 131072) : Calm (swD D f p bs) ∧ (swD D f p bs).now = upd D.now f (wrt (D.now f) p bs) := by
  have hw := h.wrE hf hp hk
  have hs := h.swE hf hp hk
  have e : Go.Proofs.Ytjbhegakgdcldaa.swE D f p bs = Go.Proofs.Ytjbhegakgdcldaa.cntE (wrD D f p bs) f := if_neg (by rw [hw]; simp)
  rw [e] at hs
  have e2 : swD D f p bs = psyD (wrD D f p bs) f := if_neg (by rw [hw]; simp)
  have hi : Inv (swD D f p bs) := ((h.few 0).swD f p bs).inv
  rw [e2] at hi ⊢
  have hn : (psyD (wrD D f p bs) f).now = upd D.now f (wrt (D.now f) p bs) := by
    rw [psyD_ok hs, wrD_ok hw]
    show upd D.now (f : Int).toNat (splice (pad (D.now (f : Int).toNat) ((p : Int).toNat + bs.length)) (p : Int).toNat bs) = _
    rw [Int.toNat_natCast, Int.toNat_natCast, splice_eq hp]
    rfl
  refine ⟨⟨?_, ?_, ?_, fun i hi8 => ?_, hi⟩, hn⟩
  · rw [psyD_ok hs, wrD_ok hw]
    show ((D.off || decide (D.tO = 1)) || decide (D.tO - 1 = 1)) = false
    rw [h.off, h.tO]; rfl
  · rw [psyD_ok hs, wrD_ok hw]
    show D.tO - 1 - 1 = 0
    rw [h.tO]
  · rw [psyD_ok hs, wrD_ok hw]
    show D.tF - 1 - 1 = 0
    rw [h.tF]
  · rw [psyD_ok hs]
    show upd (wrD D f p bs).chs (f : Int).toNat [] i = []
    rw [Int.toNat_natCast]
    by_cases e3 : i = f
    · rw [e3, upd_same]
    · rw [upd_other _ _ e3, wrD_other D f p bs i (by rw [Int.toNat_natCast]; exact e3), h.chs i hi8]
theorem Calm.psy {D : Ds} (h : Calm D) {f : Nat} (hf : f < 8) : Calm (psyD D f) ∧ (psyD D f).now = D.now := by
  have hs := h.cntE hf
  have hi : Inv (psyD D f) := ((h.few 0).psyD f).inv
  refine ⟨⟨?_, ?_, ?_, fun i hi8 => ?_, hi⟩, by rw [psyD_ok hs]; rfl⟩
  · rw [psyD_ok hs]
    show (D.off || decide (D.tO = 1)) = false
    rw [h.off, h.tO]; rfl
  · rw [psyD_ok hs]; show D.tO - 1 = 0; rw [h.tO]
  · rw [psyD_ok hs]; show D.tF - 1 = 0; rw [h.tF]
  · rw [psyD_ok hs]
    show upd D.chs (f : Int).toNat [] i = []
    rw [Int.toNat_natCast]
    by_cases e3 : i = f
    · rw [e3, upd_same]
    · rw [upd_other _ _ e3, h.chs i hi8]
/-- What is kept of a crash is what there is. -/
theorem Calm.crash {D : Ds} (h : Calm D) (ps : List Int) {i : Nat} (hi : i < 8) : crash D ps i = D.now i := by
  rw [crash_page D ps i hi, pcr, h.chs i hi]
  have := h.inv.now i hi
  rw [h.chs i hi] at this
  rw [this]
  rfl
theorem calm_new {ls : List (List UInt8)} (hs : Sml ls) (n : Nat) : Calm (dsN ls n) := ⟨rfl, rfl, rfl, fun i hi => rfl, (Few.new hs n 0).inv⟩
/-- A calm disk under a shelf: its file is as long as its places. -/
structure Lay (D : Ds) (f n : Nat) (ps : List Pl) : Prop where
  calm : Calm D
  len : (D.now f).length = ps.length * n
  most : ps.length ≤ 128
section
variable {D : Ds} {f n : Nat} {ps : List Pl}
theorem Lay.mk1 (h : Lay D f n ps) (hf : f < 8) (hn : 128 ≤ n ∧ n ≤ 1024) {at_ : Nat} (ha : at_ < ps.length) (p : Pl) : (mkR f n at_ p D ps).e = 0 ∧ Lay (mkR f n at_ p D ps).D f n (mkR f n at_ p D ps).ps ∧ (mkR f n at_ p D ps).ps = ps.set at_ p ∧ (mkR f n at_ p D ps).D.now = upd D.now f (wrt (D.now f) (at_ * n) [p.m]) := by
  have h1 : (at_ + 1) * n ≤ ps.length * n := Nat.mul_le_mul_right n ha
  have h2 : ps.length * n ≤ 128 * 1024 := Nat.mul_le_mul h.most hn.2
  rw [Nat.succ_mul] at h1
  have hp : at_ * n ≤ (D.now f).length := by rw [h.len]; omega
  have hk : at_ * n + [p.m].length ≤ 131072 := by show at_ * n + 1 ≤ 131072; omega
  have hs := h.calm.swE hf hp hk
  obtain ⟨c1, c2⟩ := h.calm.sw hf hp hk
  have hps : setP ps at_ p = ps.set at_ p := by unfold setP; rw [if_neg (by omega)]
  rw [mkR_ok hs]
  refine ⟨rfl, ⟨c1, ?_, ?_⟩, hps, c2⟩
  · show ((swD D f (at_ * n) [p.m]).now f).length = (setP ps at_ p).length * n
    rw [c2, upd_same, wrt_len hp, hps, List.length_set, h.len]
    show max _ (at_ * n + 1) = _
    omega
  · show (setP ps at_ p).length ≤ 128
    rw [hps, List.length_set]; exact h.most
theorem Lay.ly (h : Lay D f n ps) (hf : f < 8) (hn : 128 ≤ n ∧ n ≤ 1024) {at_ : Nat} (ha : at_ ≤ ps.length) (ha2 : at_ < 128) (p : Pl) (ht : p.tx.size + 16 ≤ n) : (lyR f n at_ p D ps).e = 0 ∧ Lay (lyR f n at_ p D ps).D f n (lyR f n at_ p D ps).ps ∧ (lyR f n at_ p D ps).ps = setP ps at_ p ∧ (lyR f n at_ p D ps).D.now = upd D.now f (wrt (wrt (D.now f) (at_ * n) (img n p.tx)) (at_ * n) [p.m]) := by
  have hil : (img n p.tx).length = n := img_len ht
  have h1 : at_ * n ≤ ps.length * n := Nat.mul_le_mul_right n ha
  have h2 : (at_ + 1) * n ≤ 128 * 1024 := Nat.mul_le_mul ha2 hn.2
  rw [Nat.succ_mul] at h2
  have hp : at_ * n ≤ (D.now f).length := by rw [h.len]; omega
  have hk : at_ * n + (img n p.tx).length ≤ 131072 := by rw [hil]; omega
  have hs := h.calm.swE hf hp hk
  obtain ⟨c1, c2⟩ := h.calm.sw hf hp hk
  rw [lyR_ok hs]
  generalize hD1 : swD D f (at_ * n) (img n p.tx) = D1 at *
  have hl1 : (D1.now f).length = max (ps.length * n) (at_ * n + n) := by rw [c2, upd_same, wrt_len hp, hil, h.len]
  have hp1 : at_ * n ≤ (D1.now f).length := by omega
  have hk1 : at_ * n + [p.m].length ≤ 131072 := by show at_ * n + 1 ≤ 131072; omega
  have hs1 := c1.swE hf hp1 hk1
  obtain ⟨d1, d2⟩ := c1.sw hf hp1 hk1
  rw [mkR_ok hs1]
  have hsl := @setP_ge ps at_ p
  refine ⟨rfl, ⟨d1, ?_, ?_⟩, rfl, ?_⟩
  · show ((swD D1 f (at_ * n) [p.m]).now f).length = (setP ps at_ p).length * n
    rw [d2, upd_same, wrt_len hp1, hl1]
    show max _ (at_ * n + 1) = _
    by_cases e : at_ = ps.length
    · have : (setP ps at_ p).length = ps.length + 1 := by unfold setP; rw [if_pos e, List.length_append]; rfl
      rw [this, Nat.succ_mul, e]; omega
    · have h3 : (at_ + 1) * n ≤ ps.length * n := Nat.mul_le_mul_right n (by omega)
      rw [Nat.succ_mul] at h3
      rw [setP_length (by omega)]; omega
  · show (setP ps at_ p).length ≤ 128
    by_cases e : at_ = ps.length
    · omega
    · rw [setP_length (by omega)]; exact h.most
  · show (swD D1 f (at_ * n) [p.m]).now = _
    rw [d2, c2, upd_same, upd_upd]
/-- A Put that may be. -/
theorem Lay.put (h : Lay D f n ps) (hf : f < 8) (hn : 128 ≤ n ∧ n ≤ 1024) {t : ByteArray} (ht : t.size + 16 ≤ n) (hlow : low ps < 128) : putR f n t D ps false = ⟨0, low ps, (lyR f n (low ps) ⟨1, t⟩ D ps).D, setP ps (low ps) ⟨1, t⟩, false⟩ ∧ Lay (lyR f n (low ps) ⟨1, t⟩ D ps).D f n (setP ps (low ps) ⟨1, t⟩) := by
  obtain ⟨e1, e2, e3, _⟩ := h.ly hf hn (low_take ps) hlow ⟨1, t⟩ ht
  rw [e3] at e2
  refine ⟨?_, e2⟩
  unfold putR
  rw [if_neg (by simp), if_neg (by omega), if_neg (by omega)]
  simp only [ne_eq, e1, not_true_eq_false, if_false, e3]
theorem Lay.del (h : Lay D f n ps) (hf : f < 8) (hn : 128 ≤ n ∧ n ≤ 1024) {i : Nat} (hi : hasP ps i = true) : delR f n i D ps false = ⟨0, 0, (mkR f n i pl0 D ps).D, ps.set i pl0, false⟩ ∧ Lay (mkR f n i pl0 D ps).D f n (ps.set i pl0) := by
  have hlt := hasP_lt hi
  obtain ⟨e1, e2, e3, _⟩ := h.mk1 hf hn (at_ := i) (by omega) pl0
  rw [e3] at e2
  refine ⟨?_, e2⟩
  unfold delR
  rw [if_neg (by simp), if_neg (by rw [hi]; simp), Int.toNat_natCast]
  simp only [ne_eq, e1, not_true_eq_false, if_false, e3]
end
/-- A shelf over a file of none. -/
theorem opn_empty {D : Ds} {f n : Nat} (h : Calm D) (hf : f < 8) (hn : 128 ≤ n ∧ n ≤ 1024) (h0 : D.now f = []) : opnR f n D = ⟨0, psyD D f, []⟩ ∧ Lay (psyD D f) f n [] := by
  obtain ⟨c1, c2⟩ := h.psy hf
  have hk : chk n [] = [] := by unfold chk; rw [dif_neg (fun h => h.2 rfl)]
  have e1 : lodE D f n = 0 := by
    rw [lodE_some (h.fnd hf) (by rw [h0]; simp) (ps := []) (by rw [h0, hk]; rfl)]
    rfl
  have e2 : lodP D f n = [] := by unfold lodP; rw [h0, hk]; rfl
  have l0 : Lay (psyD D f) f n [] := ⟨c1, by rw [c2, h0]; simp, by simp⟩
  refine ⟨?_, l0⟩
  rw [opnR_ok e1, e2, setlR_ok (h.cntE hf)]
  show (Rs.next ⟨0, psyD D f, []⟩ _) = _
  rw [next_ok rfl]
  show (Rs.next ⟨0, psyD D f, []⟩ _) = _
  rw [next_ok rfl]
  show cutR f n (psyD D f) [] = _
  exact cutR_same (c1.fnd hf) (by rw [c2, h0]; simp)
end Go.Proofs.Ytjbhegakgdcldaa
end
section
set_option linter.unusedSimpArgs false
set_option linter.unusedVariables false
set_option maxRecDepth 100000
namespace Go.Proofs.Ytjbhegakgdcldaa
open Go.RowKit

/-! tarnlaw10: num, Disk, wakes. -/
theorem num10 (n : Int) (w : World) : Calls Try.prog 23 #[.int .i64 n] w fun e w' => e = .returned (.int .i64 n) ∧ w' = w := by
  go_enter Try.func23, Try.ntmps23
  go_wp2
  go_ret
  exact ⟨rfl, rfl⟩
theorem disk10 (w : World) (v : Value) (ls : List (List UInt8)) (h : Rl w v ls) (hn : ls.length = 0 ∨ ls.length = 8) (hs : Sml ls) :
    Calls Try.prog 21 #[v] w fun e w' => e = .returned (.pointer (some ⟨w.heap.size, 0, none⟩)) ∧ Below w.heap.size w w' ∧ ∃ O, D1 w w' w.heap.size O (dsN ls 8) := by
  have HN : Hid (Calls Try.prog 56 #[v] w fun e w' => e = .returned (.tuple #[.pointer (some ⟨w.heap.size, 0, none⟩), .int .i64 0]) ∧ Below w.heap.size w w' ∧ ∃ O, D1 w w' w.heap.size O (dsN ls 8)) := d1New w v ls h hn hs
  clear h hn hs
  go_enter Try.func21, Try.ntmps21
  go_wp2_with (first
    | (go_at_call 56; refine Calls.mono HN.out ?_; rintro e w8 ⟨rfl, h8⟩)
    | (go_at_call 23; refine (num10 _ _).mono ?_; rintro e w9 ⟨rfl, hw9⟩; have hw9 := hw9.symm; subst hw9))
  go_ret
  exact ⟨rfl, h8⟩
/-- A shelf's own pieces by name, over a calm disk. -/
structure Sf (w W : World) (d : Nat) (O P : Nat → Nat) (b f n : Nat) (D : Ds) (ps : List Pl) : Prop where
  sh : SH w W d O P (shv d f n) b 90 D ps false
  lay : Lay D f n ps
section
variable {w W W' : World} {O P : Nat → Nat} {d b f n : Nat} {D : Ds} {ps : List Pl}
/-- A calm shelf's calls: what they tell, and what they leave. -/
theorem Sf.open (h : D1 w W d O D) (hc : Calm D) (hf : f < 8) (hn : n = 128 ∨ n = 256 ∨ n = 512 ∨ n = 1024) (h0 : D.now f = []) :
    Calls Try.prog 22 #[.pointer (some ⟨d, 0, none⟩), .int .i64 (f : Int), .int .i64 (n : Int)] W fun e w' => e = .returned (.tuple #[.pointer (some ⟨W.heap.size, 0, none⟩), .int .i64 0]) ∧ ∃ O' P', Sf w w' d O' P' W.heap.size f n (psyD D f) [] ∧ Fp O W (fun k => O' k + P' k) w' := by
  obtain ⟨e1, e2⟩ := opn_empty (n := n) hc hf (by omega) h0
  have := open10 h (hc.few 0) (by omega) f n hf hn
  rw [e1] at this
  refine this.mono ?_
  rintro e w' (⟨h1, _⟩ | ⟨_, rfl, O', P', h2, h3⟩)
  · exact absurd rfl h1
  · exact ⟨rfl, O', P', ⟨h2, e2⟩, h3⟩
theorem Sf.put (h : Sf w W d O P b f n D ps) (hf : f < 8) (hn : n = 128 ∨ n = 256 ∨ n = 512 ∨ n = 1024) (tx : ByteArray) (ht : tx.size + 16 ≤ n) (hlow : low ps < 128) :
    Calls Try.prog 29 #[.pointer (some ⟨b, 0, none⟩), .string tx] W fun e w' => e = .returned (.tuple #[.int .i64 (low ps : Int), .int .i64 0]) ∧ ∃ O' P' D', Sf w w' d O' P' b f n D' (setP ps (low ps) ⟨1, tx⟩) ∧ Fp (fun k => O k + P k) W (fun k => O' k + P' k) w' ∧ (∀ i, i ≠ f → D'.now i = D.now i) := by
  obtain ⟨e1, e2⟩ := h.lay.put hf (by omega) ht hlow
  obtain ⟨_, _, _, e4⟩ := h.lay.ly hf (by omega) (low_take ps) hlow ⟨1, tx⟩ ht
  have := put10 (shv_box d f n hf hn) h.sh (h.lay.calm.few 0) (by omega) h.lay.most tx
  rw [e1] at this
  refine this.mono ?_
  rintro e w' ⟨rfl, O', P', h2, h3⟩
  exact ⟨rfl, O', P', _, ⟨h2, e2⟩, h3, fun i hi => by rw [e4]; exact upd_other _ _ hi⟩
theorem Sf.putNo (h : Sf w W d O P b f n D ps) (hf : f < 8) (hn : n = 128 ∨ n = 256 ∨ n = 512 ∨ n = 1024) (tx : ByteArray) (hno : n < tx.size + 16 ∨ low ps = 128) :
    Calls Try.prog 29 #[.pointer (some ⟨b, 0, none⟩), .string tx] W fun e w' => e = .returned (.tuple #[.int .i64 0, .int .i64 (if n < tx.size + 16 then 2 else 5)]) ∧ ∃ O' P', Sf w w' d O' P' b f n D ps ∧ Fp (fun k => O k + P k) W (fun k => O' k + P' k) w' := by
  have e1 : putR f n tx D ps false = ⟨if n < tx.size + 16 then 2 else 5, 0, D, ps, false⟩ := by
    unfold putR
    rw [if_neg (by simp)]
    by_cases h1 : n < tx.size + 16
    · rw [if_pos h1, if_pos h1]
    · rw [if_neg h1, if_neg h1, if_pos (hno.resolve_left h1)]
  have := put10 (shv_box d f n hf hn) h.sh (h.lay.calm.few 0) (by omega) h.lay.most tx
  rw [e1] at this
  refine this.mono ?_
  rintro e w' ⟨rfl, O', P', h2, h3⟩
  exact ⟨rfl, O', P', ⟨h2, h.lay⟩, h3⟩
theorem Sf.del (h : Sf w W d O P b f n D ps) (hf : f < 8) (hn : n = 128 ∨ n = 256 ∨ n = 512 ∨ n = 1024) (i : Nat) (hi : hasP ps i = true) :
    Calls Try.prog 25 #[.pointer (some ⟨b, 0, none⟩), .int .i64 (i : Int)] W fun e w' => e = .returned (.int .i64 0) ∧ ∃ O' P' D', Sf w w' d O' P' b f n D' (ps.set i pl0) ∧ Fp (fun k => O k + P k) W (fun k => O' k + P' k) w' ∧ (∀ j, j ≠ f → D'.now j = D.now j) := by
  obtain ⟨e1, e2⟩ := h.lay.del hf (by omega) hi
  have hlt := hasP_lt hi
  obtain ⟨_, _, _, e4⟩ := h.lay.mk1 hf (by omega) (at_ := i) (by omega) pl0
  have := del10 (shv_box d f n hf hn) h.sh (h.lay.calm.few 0) (by omega) h.lay.most (i : Int)
  rw [e1] at this
  refine this.mono ?_
  rintro e w' ⟨rfl, O', P', h2, h3⟩
  exact ⟨rfl, O', P', _, ⟨h2, e2⟩, h3, fun j hj => by rw [e4]; exact upd_other _ _ hj⟩
theorem Sf.delNo (h : Sf w W d O P b f n D ps) (hf : f < 8) (hn : n = 128 ∨ n = 256 ∨ n = 512 ∨ n = 1024) (i : Int) (hi : hasP ps i = false) :
    Calls Try.prog 25 #[.pointer (some ⟨b, 0, none⟩), .int .i64 i] W fun e w' => e = .returned (.int .i64 3) ∧ ∃ O' P', Sf w w' d O' P' b f n D ps ∧ Fp (fun k => O k + P k) W (fun k => O' k + P' k) w' := by
  have e1 : delR f n i D ps false = ⟨3, 0, D, ps, false⟩ := by
    unfold delR
    rw [if_neg (by simp), if_pos hi]
  have := del10 (shv_box d f n hf hn) h.sh (h.lay.calm.few 0) (by omega) h.lay.most i
  rw [e1] at this
  refine this.mono ?_
  rintro e w' ⟨rfl, O', P', h2, h3⟩
  exact ⟨rfl, O', P', ⟨h2, h.lay⟩, h3⟩
theorem Sf.get (h : Sf w W d O P b f n D ps) (hf : f < 8) (hn : n = 128 ∨ n = 256 ∨ n = 512 ∨ n = 1024) (i : Int) :
    Calls Try.prog 26 #[.pointer (some ⟨b, 0, none⟩), .int .i64 i] W fun e w' => e = .returned (.tuple #[.string (getV ps i), .int .i64 (getE ps i)]) ∧ w' = W := by
  obtain ⟨pv, hs⟩ := h.sh.sb
  exact get10 (shv_box d f n hf hn) hs i
theorem Sf.len (h : Sf w W d O P b f n D ps) (hf : f < 8) (hn : n = 128 ∨ n = 256 ∨ n = 512 ∨ n = 1024) :
    Calls Try.prog 31 #[.pointer (some ⟨b, 0, none⟩)] W fun e w' => e = .returned (.int .i64 ((ents 0 ps).length : Int)) ∧ Below W.heap.size W w' := by
  obtain ⟨pv, hs⟩ := h.sh.sb
  exact len10 (shv_box d f n hf hn) hs (by have := h.lay.most; omega)
theorem Sf.failed (h : Sf w W d O P b f n D ps) (hf : f < 8) (hn : n = 128 ∨ n = 256 ∨ n = 512 ∨ n = 1024) :
    Calls Try.prog 32 #[.pointer (some ⟨b, 0, none⟩)] W fun e w' => e = .returned (.bool false) ∧ w' = W := by
  obtain ⟨pv, hs⟩ := h.sh.sb
  exact failed10 (shv_box d f n hf hn) hs
theorem Sf.all (h : Sf w W d O P b f n D ps) (hf : f < 8) (hn : n = 128 ∨ n = 256 ∨ n = 512 ∨ n = 1024) :
    Calls Try.prog 66 #[.pointer (some ⟨b, 0, none⟩)] W (AllQ W ps) := by
  obtain ⟨pv, hs⟩ := h.sh.sb
  exact all10 (shv_box d f n hf hn) hs (by have := h.lay.most; omega)
theorem Sf.below (h : Sf w W d O P b f n D ps) (hb : Below W.heap.size W W') : Sf w W' d O P b f n D ps := ⟨h.sh.below hb, h.lay⟩
theorem Sf.bel (h : Sf w W d O P b f n D ps) : Below w.heap.size w W := h.sh.d1.bel
theorem Sf.fpb (h : Sf w W d O P b f n D ps) (hb : Below W.heap.size W W') : Fp (fun k => O k + P k) W (fun k => O k + P k) W' := Fp.of_below _ hb
end
set_option maxHeartbeats 4000000 in
theorem wakes10 (w : World) : Calls Try.prog 33 #[] w fun e w' => e = .returned (.bool true) ∧ Below w.heap.size w w' := by
  have HD : Hid (Calls Try.prog 21 #[.slice none 0 0] w fun e w' => e = .returned (.pointer (some ⟨w.heap.size, 0, none⟩)) ∧ Below w.heap.size w w' ∧ ∃ O, D1 w w' w.heap.size O (dsN [] 8)) := disk10 w _ [] (Rl.nil9 w) (.inl rfl) sml_nil
  have HO : Hid (∀ w1 O, D1 w w1 w.heap.size O (dsN [] 8) → Calls Try.prog 22 #[.pointer (some ⟨w.heap.size, 0, none⟩), .int .i64 0, .int .i64 128] w1 fun e w' => e = .returned (.tuple #[.pointer (some ⟨w1.heap.size, 0, none⟩), .int .i64 0]) ∧ ∃ O' P', Sf w w' w.heap.size O' P' w1.heap.size 0 128 (psyD (dsN [] 8) (0 : Nat)) [] ∧ Fp O w1 (fun k => O' k + P' k) w') := fun w1 O h1 => Sf.open (f := 0) (n := 128) h1 (calm_new sml_nil 8) (by omega) (by omega) rfl
  go_enter Try.func33, Try.ntmps33
  go_wp2_with (go_at_call 21; refine stop10 ?_)
  unfold Hold10
  refine Calls.mono HD.out ?_
  rintro e w1 ⟨rfl, hb1, O, h1⟩
  have H1 : Hid (D1 w w1 w.heap.size O (dsN [] 8)) := h1
  clear hb1 h1
  go_wp2_with (go_at_call 22; refine stop10 ?_)
  unfold Hold10
  refine Calls.mono (HO.out _ _ H1.out) ?_
  rintro e w2 ⟨rfl, O2, P2, h2, _⟩
  have H2 : Hid (Sf w w2 w.heap.size O2 P2 w1.heap.size 0 128 (psyD (dsN [] 8) (0 : Nat)) []) := h2
  clear h2
  go_wp2_with (first
    | (go_at_call 23; refine (num10 _ _).mono ?_; rintro e w9 ⟨rfl, hw9⟩; have hw9 := hw9.symm; subst hw9)
    | (go_at_call 29; refine stop10 ?_))
  unfold Hold10
  refine (H2.out.put (by omega) (by omega) ⟨#[97]⟩ (by decide) (by decide)).mono ?_
  rintro e w3 ⟨rfl, O3, P3, D3, h3, _⟩
  have H3 : Hid (Sf w w3 w.heap.size O3 P3 w1.heap.size 0 128 D3 [⟨1, ⟨#[97]⟩⟩]) := h3
  clear h3
  have eL : ((low [] : Nat) : Int) = 0 := rfl
  rw [eL]
  clear eL
  go_wp2_with (go_at_call 26; refine stop10 ?_)
  unfold Hold10
  refine (H3.out.get (by omega) (by omega) _).mono ?_
  rintro e w4 ⟨rfl, hw4⟩
  have hw4 := hw4.symm
  subst hw4
  have eG : getV [⟨1, ⟨#[97]⟩⟩] (0 : Int) = ⟨#[97]⟩ := rfl
  have eE : getE [⟨1, ⟨#[97]⟩⟩] (0 : Int) = 0 := rfl
  rw [eG, eE]
  clear eG eE
  go_wp2_with (first
    | (go_at_call 23; refine (num10 _ _).mono ?_; rintro e w9 ⟨rfl, hw9⟩; have hw9 := hw9.symm; subst hw9)
    | (go_at_call 31; refine stop10 ?_))
  unfold Hold10
  refine (H3.out.len (by omega) (by omega)).mono ?_
  rintro e w5 ⟨rfl, hb5⟩
  have eN : (((ents 0 [⟨1, ⟨#[97]⟩⟩]).length : Nat) : Int) = 1 := rfl
  rw [eN]
  have HB5 : Hid (Below w.heap.size w w5) := H3.out.bel.trans (hb5.mono H3.out.bel.size)
  clear eN hb5
  go_wp2_with fail
  go_ret
  exact ⟨rfl, HB5.out⟩
end Go.Proofs.Ytjbhegakgdcldaa
end
section
set_option linter.unusedSimpArgs false
set_option linter.unusedVariables false
namespace Go.Proofs.Ytjbhegakgdcldaa
open Go.RowKit

/-! tarnlaw0.Within. -/
theorem within9 (i : Int) (n : Nat) (hn : 0 < n) (hn2 : n ≤ 9223372036854775807) (w : World) :
    Calls Try.prog 20 #[.int .i64 i, .int .i64 (n : Int)] w fun e w' => (∃ k : Nat, k < n ∧ e = .returned (.int .i64 (k : Int))) ∧ w' = w := by
  have hw : IntKind.u64.wrap (n : Int) = n := by rw [IntKind.wrap_u64]; omega
  have h0 : ¬ (n : Int) = 0 := by omega
  have h1 : ((n : Int) == 0) = false := by simp; omega
  obtain ⟨j, hj⟩ : ∃ j : Nat, IntKind.u64.wrap i = (j : Int) := by
    refine ⟨(IntKind.u64.wrap i).toNat, ?_⟩
    rw [IntKind.wrap_u64]; omega
  have HN : Hid (0 < n ∧ n ≤ 9223372036854775807) := ⟨hn, hn2⟩
  clear hn hn2
  go_enter Try.func20, Try.ntmps20
  go_wp2
  go_ret
  have hl : j % n < n := Nat.mod_lt _ HN.out.1
  refine ⟨⟨j % n, hl, ?_⟩, rfl⟩
  have e : wrap64 ((j : Int) % (n : Int)) = ((j % n : Nat) : Int) := by
    have := HN.out.2
    rw [← Int.natCast_emod]
    generalize j % n = r at *
    unfold wrap64; omega
  rw [← e]
  rfl
end Go.Proofs.Ytjbhegakgdcldaa
end
section
set_option linter.unusedSimpArgs false
set_option linter.unusedVariables false
set_option maxRecDepth 100000
namespace Go.Proofs.Ytjbhegakgdcldaa
open Go.ChangeShapes Go.WideShapes Go.ChangeAt Go.RowKit Go.Deep

/-! What came in: bytes, numbers, rows of bytes. -/
theorem own : ownKnob Try.prog.godebug = none := by kernel_rfl
theorem laidOut : laidOutB Try.prog = true := by kernel_rfl
theorem cells3 : Try.prog.cellsOf 3 = 1 := by kernel_rfl
theorem cellsU8 : Try.prog.cellsOf 5 = 1 := by kernel_rfl
theorem cellsB : Try.prog.cellsOf 58 = 1 := by kernel_rfl
theorem cellsBb : Try.prog.cellsOf 84 = 1 := by kernel_rfl
theorem cellsI : Try.prog.cellsOf 23 = 1 := by kernel_rfl
theorem addr_zero (a : Addr) : a.add 0 = a := by unfold Addr.add; split <;> simp_all
theorem bulk_at {H : Type} : ∀ (l : List (DataW H)) (i : Nat) (h : i < l.length), Rows.uptoBulk l[i] ≤ Rows.uptoBulkAll l := by
  intro l
  induction l with
  | nil => intro i h; simp at h
  | cons d l ih =>
    intro i h
    simp only [Rows.uptoBulkAll]
    cases i with
    | zero => simp
    | succ j => have := ih j (by simpa using h); simp; omega
theorem bulk_pos {H : Type} (d : DataW H) : 1 ≤ Rows.uptoBulk d := by
  cases d with
  | lit l => cases l <;> simp [Rows.uptoBulk]
  | _ => simp [Rows.uptoBulk]
theorem bulk_len {H : Type} : ∀ (l : List (DataW H)), l.length ≤ Rows.uptoBulkAll l
  | [] => by simp
  | d :: l => by have := bulk_len l; have := bulk_pos d; simp only [Rows.uptoBulkAll, List.length_cons]; omega
theorem i64_bd {k : Int} (h : (Lit.int .i64 k).wf = true) : -9223372036854775808 ≤ k ∧ k ≤ 9223372036854775807 := by
  simp [Lit.wf, IntKind.min, IntKind.max, IntKind.bits, IntKind.signed] at h
  omega
section
variable {H : Type} {enc : TypeId × Value → H} {W : World} {spare : Nat → Bool} {held : Bool}
theorem rb_of_trod {fuel : Nat} {v : Value} {x : DataW H × List MemPlace}
    (h : DataW.trod enc Try.prog W 0 spare held fuel 58 [v] = some x) : ∃ l, Rb W v l ∧ l.length ≤ Rows.uptoBulk x.1 := by
  rcases open_ints Try.underlying58 Try.underlying5 cellsU8 h with ⟨hc, _⟩ | ⟨a, len, cap, zs, hc, _, hl, hm, hz, hx, hcell, hws⟩
  · simp at hc
    subst hc
    exact ⟨[], ⟨none, 0, rfl, by simp, by simp, fun i hi => by simp at hi⟩, by simp⟩
  · simp at hc
    subst hc
    have hle : len ≤ zs.length := by rw [hz]; split <;> omega
    have hll : ((zs.take len).map fun z => UInt8.ofNat z.toNat).length = len := by simp; omega
    refine ⟨(zs.take len).map fun z => UInt8.ofNat z.toNat, ⟨some a, cap, by rw [hll], by rw [hll]; exact hl, by rw [hll]; unfold maxLen at hm; omega, fun i hi => ?_⟩, ?_⟩
    · rw [hll] at hi
      obtain ⟨b, off, spot⟩ := a
      have h1 := hcell i (by omega)
      have h0 := hcell 0 (by omega)
      have hspot : spot = none := by
        have h9 : W.cell? ⟨b, off, spot⟩ = some (.int .u8 (zs.getD 0 0)) := by rw [addr_zero] at h0; exact h0
        exact World.cell?_spot h9
      subst hspot
      refine ⟨b, off, rfl, ?_⟩
      have hadd : (⟨b, off, none⟩ : Addr).add i = ⟨b, off + i, none⟩ := Addr.add_lit _ _ _
      rw [hadd] at h1
      rw [h1]
      have hzi : zs.getD i 0 = zs[i]'(by omega) := by simp [List.getD, show i < zs.length by omega]
      have hb := hws (zs[i]'(by omega)) (List.getElem_mem _)
      rw [hzi]
      have e : ((zs.take len).map fun z => UInt8.ofNat z.toNat)[i]'(by rw [hll]; exact hi) = UInt8.ofNat (zs[i]'(by omega)).toNat := by simp
      rw [e]
      generalize zs[i]'(by omega) = z at *
      simp [Lit.wf, IntKind.min, IntKind.max, IntKind.bits, IntKind.signed] at hb
      congr 2
      rw [UInt8.toNat_ofNat']
      omega
    · rw [hll, hx]
      simp only [Rows.uptoBulk]
      have := bulk_len (lits (H := H) .u8 (zs.take len))
      have e : (lits (H := H) .u8 (zs.take len)).length = len := by simp [lits]; omega
      omega
theorem rp_of_trod {fuel : Nat} {v : Value} {x : DataW H × List MemPlace}
    (h : DataW.trod enc Try.prog W 0 spare held fuel 23 [v] = some x) : ∃ l, Rp W v l ∧ l.length ≤ Rows.uptoBulk x.1 := by
  rcases open_ints Try.underlying23 Try.underlying3 cells3 h with ⟨hc, _⟩ | ⟨a, len, cap, zs, hc, _, hl, hm, hz, hx, hcell, hws⟩
  · simp at hc
    subst hc
    exact ⟨[], ⟨none, 0, rfl, by simp, by simp, fun p hp => (by cases hp), fun i hi => by simp at hi⟩, by simp⟩
  · simp at hc
    subst hc
    have hle : len ≤ zs.length := by rw [hz]; split <;> omega
    have hll : (zs.take len).length = len := by simp; omega
    refine ⟨zs.take len, ⟨some a, cap, by rw [hll], by rw [hll]; exact hl, by rw [hll]; unfold maxLen at hm; omega, fun p hp => i64_bd (hws p (List.mem_of_mem_take hp)), fun i hi => ?_⟩, ?_⟩
    · rw [hll] at hi
      obtain ⟨b, off, spot⟩ := a
      have h1 := hcell i (by omega)
      have h0 := hcell 0 (by omega)
      have hspot : spot = none := by
        have h9 : W.cell? ⟨b, off, spot⟩ = some (.int .i64 (zs.getD 0 0)) := by rw [addr_zero] at h0; exact h0
        exact World.cell?_spot h9
      subst hspot
      refine ⟨b, off, rfl, ?_⟩
      have hadd : (⟨b, off, none⟩ : Addr).add i = ⟨b, off + i, none⟩ := Addr.add_lit _ _ _
      rw [hadd] at h1
      rw [h1]
      simp [List.getD, show i < zs.length by omega]
    · rw [hll, hx]
      simp only [Rows.uptoBulk]
      have := bulk_len (lits (H := H) .i64 (zs.take len))
      have e : (lits (H := H) .i64 (zs.take len)).length = len := by simp [lits]; omega
      omega
theorem rl_of_trod {n : Nat} {v : Value} {y : DataW H × List MemPlace} (h : DataW.trod enc Try.prog W 0 spare held n 84 [v] = some y) : ∃ ls, Rl W v ls ∧ ls.length ≤ Rows.uptoBulk y.1 ∧ ∀ l ∈ ls, l.length ≤ Rows.uptoBulk y.1 := by
  rcases DataW.trod_slice Try.underlying84 h with ⟨hc, hy⟩ | ⟨a, len, cap, elems, rest, k, rfl, hc, rfl, hb, hl, hm, hlen, hel, -, -⟩
  · simp at hc
    subst hc
    exact ⟨[], ⟨none, 0, rfl, by simp, by simp, fun i hi => by simp at hi⟩, by simp, fun l hl => by cases hl⟩
  · simp at hc
    subst hc
    rw [cellsB] at hel
    have one : ∀ i, ∃ q : List UInt8 × Value, (h : i < len) → W.cell? (a.add i) = some q.2 ∧ Rb W q.2 q.1 ∧ q.1.length ≤ Rows.uptoBulk (elems[i]'(by omega)).1 := by
      intro i
      by_cases hi : i < len
      · have h1 := hel i hi
        rw [List.getElem?_eq_getElem (by omega)] at h1
        obtain ⟨cs, h2, h3⟩ := Option.bind_eq_some_iff.1 h1
        obtain ⟨hl1, _, h4⟩ := World.cells?_some h2
        obtain ⟨u, rfl⟩ : ∃ u, cs = [u] := List.length_eq_one_iff.1 (by omega)
        obtain ⟨l, e, hb⟩ := rb_of_trod h3
        refine ⟨(l, u), fun _ => ⟨?_, e, hb⟩⟩
        have h5 := h4 0 (by omega)
        rw [addr_zero, Nat.mul_one] at h5
        rw [h5]; rfl
      · exact ⟨([], .bool false), fun h' => absurd h' hi⟩
    obtain ⟨f, hf⟩ : ∃ f : Nat → List UInt8 × Value, ∀ i (h : i < len), W.cell? (a.add i) = some (f i).2 ∧ Rb W (f i).2 (f i).1 ∧ (f i).1.length ≤ Rows.uptoBulk (elems[i]'(by omega)).1 := ⟨fun i => Classical.choose (one i), fun i h => Classical.choose_spec (one i) h⟩
    have hll : ((List.range len).map fun i => (f i).1).length = len := by simp
    have hbk : ∀ i (h : i < len), Rows.uptoBulk (elems[i]'(by omega)).1 ≤ Rows.uptoBulk (DataW.slice (elems.map (·.1)) (rest.map (·.1)) : DataW H) := fun i hi => by
      have := bulk_at (elems.map (·.1)) i (by simp; omega)
      simp only [List.getElem_map] at this
      simp only [Rows.uptoBulk]
      omega
    refine ⟨(List.range len).map fun i => (f i).1, ⟨some a, cap, by rw [hll], by rw [hll]; exact hl, by rw [hll]; unfold maxLen at hm; omega, fun i hi => ?_⟩, ?_, fun l hl' => ?_⟩
    · rw [hll] at hi
      obtain ⟨b, off, spot⟩ := a
      have hspot : spot = none := by
        have := (hf 0 (by omega)).1
        rw [addr_zero] at this
        exact World.cell?_spot this
      subst hspot
      obtain ⟨h0, h1, _⟩ := hf i hi
      rw [Addr.add_lit] at h0
      refine ⟨b, off, (f i).2, rfl, h0, ?_⟩
      simp only [List.getElem_map, List.getElem_range]
      exact h1
    · rw [hll]
      have := bulk_len (elems.map (·.1))
      rw [List.length_map] at this
      simp only [Rows.uptoBulk]
      omega
    · obtain ⟨i, hi, rfl⟩ := List.mem_map.1 hl'
      have hi : i < len := by simpa using hi
      exact Nat.le_trans (hf i hi).2.2 (hbk i hi)
end
end Go.Proofs.Ytjbhegakgdcldaa
end
section
set_option linter.unusedSimpArgs false
set_option linter.unusedVariables false
set_option maxRecDepth 100000
namespace Go.Proofs.Ytjbhegakgdcldaa
open Go.ChangeShapes Go.WideShapes Go.ChangeAt Go.RowKit Go.Deep

/-! Scripts (tarnlaw10.Script) that came in. -/
theorem cellsStr : Try.prog.cellsOf 9 = 1 := by kernel_rfl
theorem cellsAct10 : Try.prog.cellsOf 37 = 4 := by kernel_rfl
theorem cellsActs10 : Try.prog.cellsOf 22 = 1 := by kernel_rfl
theorem cellsScr10 : Try.prog.cellsOf 25 = 4 := by kernel_rfl
section
variable {H : Type} {enc : TypeId × Value → H} {W : World} {spare : Nat → Bool} {held : Bool}
theorem acts10_sl {n : Nat} {v : Value} {y : DataW H × List MemPlace} (h : DataW.trod enc Try.prog W 0 spare held n 22 [v] = some y) : ∃ la lm lc, v = .slice la lm lc ∧ lm ≤ 9223372036854775807 := by
  rcases DataW.trod_slice Try.underlying22 h with ⟨hc, hy⟩ | ⟨a, len, cap, elems, rest, k, rfl, hc, rfl, hb, hl, hm, hlen, hel, -, -⟩
  · simp at hc
    subst hc
    exact ⟨none, 0, 0, rfl, by omega⟩
  · simp at hc
    subst hc
    exact ⟨some a, len, cap, rfl, by unfold maxLen at hm; omega⟩
theorem script10_of_trod {n : Nat} {cs : List Value} {y : DataW H × List MemPlace} (h : DataW.trod enc Try.prog W 0 spare held n 25 cs = some y) :
    ∃ (k f : Int) (lv ov : Value) (x2 x3 : DataW H × List MemPlace), cs = [.int .i64 k, .int .i64 f, lv, ov] ∧ (-9223372036854775808 ≤ k ∧ k ≤ 9223372036854775807) ∧ (-9223372036854775808 ≤ f ∧ f ≤ 9223372036854775807) ∧ (∃ m, DataW.trod enc Try.prog W 0 spare held m 22 [lv] = some x2) ∧ (∃ m, DataW.trod enc Try.prog W 0 spare held m 23 [ov] = some x3) ∧ Rows.uptoBulk x2.1 ≤ Rows.uptoBulk y.1 ∧ Rows.uptoBulk x3.1 ≤ Rows.uptoBulk y.1 := by
  obtain ⟨xs, m, _, e1, hcl, hxl, hf⟩ := DataW.trod_struct Try.underlying25 h
  rw [cellsScr10] at hcl
  obtain ⟨x0, x1, x2, x3, rfl⟩ : ∃ a b c d, xs = [a, b, c, d] := by
    have : xs.length = 4 := hxl
    match xs, this with
    | [a, b, c, d], _ => exact ⟨a, b, c, d, rfl⟩
  obtain ⟨v0, v1, v2, v3, rfl⟩ : ∃ a b c d, cs = [a, b, c, d] := by
    match cs, hcl with
    | [a, b, c, d], _ => exact ⟨a, b, c, d, rfl⟩
  have f0 : DataW.trod enc Try.prog W 0 spare held m 3 (([v0, v1, v2, v3].drop 0).take (Try.prog.cellsOf 3)) = some x0 := hf 0 _ rfl
  have f1 : DataW.trod enc Try.prog W 0 spare held m 3 (([v0, v1, v2, v3].drop 1).take (Try.prog.cellsOf 3)) = some x1 := hf 1 _ rfl
  have f2 : DataW.trod enc Try.prog W 0 spare held m 22 (([v0, v1, v2, v3].drop 2).take (Try.prog.cellsOf 22)) = some x2 := hf 2 _ rfl
  have f3 : DataW.trod enc Try.prog W 0 spare held m 23 (([v0, v1, v2, v3].drop 3).take (Try.prog.cellsOf 23)) = some x3 := hf 3 _ rfl
  rw [cells3] at f0 f1
  rw [cellsActs10] at f2
  rw [cellsI] at f3
  obtain ⟨k0, e0, _, w0⟩ := DataW.trod_int Try.underlying3 f0
  obtain ⟨k1, e10, _, w1⟩ := DataW.trod_int Try.underlying3 f1
  simp at e0 e10
  subst e0 e10
  have eb : Rows.uptoBulk y.1 = Rows.uptoBulk x0.1 + (Rows.uptoBulk x1.1 + (Rows.uptoBulk x2.1 + (Rows.uptoBulk x3.1 + 0))) + 1 := by rw [e1]; simp [Rows.uptoBulk, Rows.uptoBulkAll]
  exact ⟨k0, k1, v2, v3, x2, x3, rfl, i64_bd w0, i64_bd w1, ⟨m, f2⟩, ⟨m, f3⟩, by omega, by omega⟩
end
end Go.Proofs.Ytjbhegakgdcldaa
end

import Derived.Test.YtljhhdpeakencaaJ10
import Derived.Test.YtljhhdpeakencaaDkGs
set_option linter.unusedSimpArgs false
set_option linter.unusedVariables false
namespace Go.Proofs.Ytljhhdpeakencaa
open Go.RowKit

/-! tarnlaw9.DiskSafe: what stays. -/
section
variable {w W W' : World} {d : Nat} {O O' : Nat → Nat} {D D' : Ds}
theorem d1WriteS (h : D1 w W d O D) {q : Nat} (hf : Few D q) (hq : q ≤ 1000) (f at_ : Int) (ad : Option Addr) (bs : List UInt8) (bc : Nat) (hb : Rb W (.slice ad bs.length bc) bs) (hO : bs.length ≠ 0 → ∀ b n, ad = some ⟨b, n, none⟩ → O b = 0) :
    Calls Try.prog 50 #[.pointer (some ⟨d, 0, none⟩), .int .i64 f, .int .i64 at_, .slice ad bs.length bc] W fun e w' => e = .returned (.int .i64 (wrE D f at_ bs.length)) ∧ ∃ O', D1 w w' d O' (wrD D f at_ bs) ∧ Fp O W O' w' := by
  obtain ⟨nv, sv, cv, hd⟩ := h.dk
  obtain ⟨f1, f2, f3, f4⟩ := hf.n40 hq
  have hl : bs.length ≤ 9223372036854775807 := by
    obtain ⟨_, _, e, _, h2, _⟩ := hb
    exact h2
  have key : Calls Try.prog 50 #[.pointer (some ⟨d, 0, none⟩), .int .i64 f, .int .i64 at_, .slice ad bs.length bc] W fun e w' => e = .returned (.int .i64 (wrE D f at_ bs.length)) ∧ ∃ O' nv' sv' cv', DK w' O' d (wrD D f at_ bs) nv' sv' cv' ∧ Fp O W O' w' := by
    by_cases hw : wrE D f at_ bs.length = 0
    · obtain ⟨h0, i, a, rfl, hi, rfl, ha, hab⟩ := wrE_ok hw
      have e : wrD D (i : Int) (a : Int) bs = wrL (cnt D) i a bs (pcs a bs.length 0) := by unfold wrD; rw [if_pos hw, Int.toNat_natCast, Int.toNat_natCast]
      rw [e, hw]
      exact write_okS W O d i a D nv sv cv ad bs bc hd hi h0 ha hab (f1 i hi) (Nat.le_trans (f3 i hi) (by omega)) hb hO
    · have e : wrD D f at_ bs = cnt D := if_neg hw
      rw [e]
      exact write_no W O d D nv sv cv f at_ ad bs.length bc hd f1 hl hw
  refine key.mono ?_
  rintro e w' ⟨rfl, O', nv', sv', cv', h1, h2⟩
  exact ⟨rfl, O', h.prog ⟨_, _, _, h1⟩ h2, h2⟩
end
/-- string(b), of bytes that are read. -/
theorem rb_string {w : World} {v : Value} {l : List UInt8} (h : Rb w v l) (hl : 0 < l.length) : (convert 37 9 v).run Try.prog w = .ok (.string ⟨l.toArray⟩) w := by
  obtain ⟨ad, cap, rfl, _, _, hc⟩ := h
  obtain ⟨g, off, rfl, _⟩ := hc 0 hl
  have e := run_convert_bytes_arg (P := Try.prog) w 37 5 Try.underlying37 Try.underlying5 g off l.length cap (l.map fun b => (b.toNat : Int)) (by simp) (fun i hi => by
    obtain ⟨g', off', e2, hx⟩ := hc i hi
    simp at e2
    obtain ⟨rfl, rfl⟩ := e2
    rw [hx]
    simp [hi]) 9 Try.underlying9
  rw [str_of] at e
  exact e
theorem wrD_cntS (D : Ds) (f at_ : Int) (bs : List UInt8) : (wrD D f at_ bs).off = (cnt D).off ∧ (wrD D f at_ bs).tO = (cnt D).tO ∧ (wrD D f at_ bs).tF = (cnt D).tF := by
  by_cases hw : wrE D f at_ bs.length = 0
  · rw [wrD_ok hw]; exact ⟨rfl, rfl, rfl⟩
  · rw [wrD_no hw]; exact ⟨rfl, rfl, rfl⟩
def sf9 : List UInt8 := [116, 104, 101, 115, 101, 32, 98, 121, 116, 101, 115, 32, 97, 114, 101, 32, 115, 97, 102, 101]
def Pre9 (r : List UInt8) : Prop := r.take 20 = sf9
theorem Pre9.len {r : List UInt8} (h : Pre9 r) : 20 ≤ r.length := by
  have e := congrArg List.length h
  rw [List.length_take] at e
  have : sf9.length = 20 := rfl
  omega
theorem pre_splice {r bs : List UInt8} {p n : Nat} (h : Pre9 r) (hp : 20 ≤ p) : Pre9 (splice (pad r n) p bs) := by
  have hl := h.len
  have h1 : (pad r n).take 20 = sf9 := by unfold pad; rw [List.take_append_of_le_length hl]; exact h
  have h2 : 20 ≤ (pad r n).length := by rw [pad_length]; omega
  have h3 : 20 ≤ ((pad r n).take p).length := by rw [List.length_take]; omega
  unfold Pre9 splice
  rw [List.take_append_of_le_length h3, List.take_take, Nat.min_eq_left hp]
  exact h1
structure PcB (c : Ch) : Prop where
  cut : c.cut = false
  pos : 20 ≤ c.pos
theorem pst_pre {c : Ch} (hc : PcB c) (p : Int) {r : List UInt8} (h : Pre9 r) : Pre9 (pst c p r) := by
  unfold pst
  cases hk : kpt c p with
  | none => exact h
  | some c' =>
    have h1 : c'.pos = c.pos ∧ c'.cut = c.cut := by
      unfold kpt at hk
      split at hk
      · simp at hk; subst hk; exact ⟨rfl, rfl⟩
      · split at hk
        · simp at hk
        · simp at hk; subst hk; exact ⟨rfl, rfl⟩
    show Pre9 (ovr c' r)
    rw [ovr_piece (h1.2.trans hc.cut)]
    exact pre_splice h (by rw [h1.1]; exact hc.pos)
theorem crI_pre (ps : List Int) (cs : List Ch) (hc : ∀ c ∈ cs, PcB c) : ∀ (k : Nat) (r : List UInt8), Pre9 r → Pre9 (crI ps cs k r) := by
  induction cs with
  | nil => intro k r h; exact h
  | cons x cs ih => intro k r h; exact ih (fun c h => hc c (List.mem_cons_of_mem _ h)) _ _ (pst_pre (hc x (List.mem_cons_self ..)) _ h)
structure SfI (D : Ds) : Prop where
  off : D.off = false
  tO : D.tO = 0
  tF : D.tF = 0
  safe : Pre9 (D.safe 2)
  now : Pre9 (D.now 2)
  chs : ∀ c ∈ D.chs 2, PcB c
theorem SfI.cnt {D : Ds} (h : SfI D) (f : Nat) (hf : f < 8) : cntE D (f : Int) = 0 ∧ (cnt D).off = false ∧ (cnt D).tO = 0 ∧ (cnt D).tF = 0 := by
  have h1 : (Go.Proofs.Ytljhhdpeakencaa.cnt D).off = false := by show (D.off || decide (D.tO = 1)) = false; rw [h.off, h.tO]; rfl
  refine ⟨?_, h1, ?_, ?_⟩
  · unfold cntE
    rw [if_neg (by rw [h1]; simp), h.tF, if_neg (by omega)]
    unfold fndE
    rw [if_neg (by simp), if_neg (by omega)]
  · show D.tO - 1 = 0; rw [h.tO]
  · show D.tF - 1 = 0; rw [h.tF]
theorem SfI.crash {D : Ds} (h : SfI D) (ps : List Int) : Pre9 (crash D ps 2) := by
  rw [crash_page D ps 2 (by omega)]
  exact crI_pre ps _ h.chs _ _ h.safe
theorem SfI.wr {D : Ds} (h : SfI D) (f a : Nat) (bs : List UInt8) (hf : f < 8) (ha : a ≤ (D.now f).length) (h2 : f = 2 → a = (D.now 2).length) : (wrE D (f : Int) (a : Int) bs.length = 0 ∨ wrE D (f : Int) (a : Int) bs.length = 5) ∧ SfI (wrD D (f : Int) (a : Int) bs) := by
  obtain ⟨c0, c1, c2, c3⟩ := h.cnt f hf
  obtain ⟨q1, q2, q3⟩ := wrD_cntS D (f : Int) (a : Int) bs
  have he : wrE D (f : Int) (a : Int) bs.length = 0 ∨ wrE D (f : Int) (a : Int) bs.length = 5 := by
    unfold wrE
    rw [c0, if_neg (by omega), Int.toNat_natCast, if_neg (by omega)]
    split
    · exact .inr rfl
    · exact .inl rfl
  refine ⟨he, ?_⟩
  have hl := h.now.len
  rcases he with hw | hw
  · have e := wrD_ok hw
    rw [Int.toNat_natCast, Int.toNat_natCast] at e
    have e1 : (wrD D (f : Int) (a : Int) bs).safe = D.safe := by rw [e]; rfl
    have e2 : (wrD D (f : Int) (a : Int) bs).now = upd D.now f (splice (pad (D.now f) (a + bs.length)) a bs) := by rw [e]
    have e3 : (wrD D (f : Int) (a : Int) bs).chs = upd D.chs f (D.chs f ++ (pcs a bs.length 0).map (pch a bs)) := by rw [e]
    refine ⟨q1.trans c1, q2.trans c2, q3.trans c3, by rw [e1]; exact h.safe, ?_, fun c hc => ?_⟩
    · rw [e2]
      by_cases e4 : f = 2
      · subst e4
        rw [upd_same]
        exact pre_splice h.now (by have := h2 rfl; omega)
      · rw [upd_other _ _ (fun e5 => e4 e5.symm)]
        exact h.now
    · rw [e3] at hc
      by_cases e4 : f = 2
      · subst e4
        rw [upd_same] at hc
        rcases List.mem_append.1 hc with hc | hc
        · exact h.chs c hc
        · obtain ⟨x, _, rfl⟩ := List.mem_map.1 hc
          exact ⟨rfl, by show 20 ≤ a + x.1; have := h2 rfl; omega⟩
      · rw [upd_other _ _ (fun e5 => e4 e5.symm)] at hc
        exact h.chs c hc
  · have e := wrD_no (bs := bs) (D := D) (f := (f : Int)) (at_ := (a : Int)) (by rw [hw]; omega)
    rw [e]
    exact ⟨c1, c2, c3, h.safe, h.now, h.chs⟩
theorem SfI.sy {D : Ds} (h : SfI D) (f : Nat) (hf : f < 8) : SfI (psyD D (f : Int)) := by
  obtain ⟨c0, c1, c2, c3⟩ := h.cnt f hf
  rw [psyD_ok c0, Int.toNat_natCast]
  refine ⟨c1, c2, c3, ?_, h.now, fun c hc => ?_⟩
  · show Pre9 (upd D.safe f (D.now f) 2)
    by_cases e4 : f = 2
    · subst e4; rw [upd_same]; exact h.now
    · rw [upd_other _ _ (fun e5 => e4 e5.symm)]; exact h.safe
  · have hc2 : c ∈ upd D.chs f [] 2 := hc
    by_cases e4 : f = 2
    · subst e4; rw [upd_same] at hc2; cases hc2
    · rw [upd_other _ _ (fun e5 => e4 e5.symm)] at hc2; exact h.chs c hc2
def sf1 : Ds := wrD (dsN [] 8) 2 0 sf9
def sf2 : Ds := psyD sf1 2
theorem sf_w : wrE (dsN [] 8) 2 0 sf9.length = 0 := by decide
theorem sf1_eq : sf1 = { cnt (dsN [] 8) with now := upd (dsN [] 8).now 2 (splice (pad ((dsN [] 8).now 2) (0 + sf9.length)) 0 sf9), chs := upd (dsN [] 8).chs 2 ((dsN [] 8).chs 2 ++ (pcs 0 sf9.length 0).map (pch 0 sf9)) } := wrD_ok (f := 2) (at_ := 0) sf_w
theorem sf_s : cntE sf1 2 = 0 := by rw [sf1_eq]; decide
theorem sf1_few : Few sf1 1 := (Few.new sml_nil 8 0).wrD 2 0 sf9
theorem sf2_few : Few sf2 1 := sf1_few.psyD 2
theorem sf2_inv : SfI sf2 := by
  have e : sf2 = { cnt sf1 with safe := upd sf1.safe 2 (sf1.now 2), chs := upd sf1.chs 2 [] } := psyD_ok sf_s
  have hn : sf1.now 2 = sf9 := by rw [sf1_eq]; rfl
  refine ⟨by rw [e, sf1_eq]; rfl, by rw [e, sf1_eq]; rfl, by rw [e, sf1_eq]; rfl, ?_, ?_, fun c hc => ?_⟩
  · rw [e]
    show Pre9 (upd sf1.safe 2 (sf1.now 2) 2)
    rw [upd_same, hn]; rfl
  · rw [e]
    show Pre9 (sf1.now 2)
    rw [hn]; rfl
  · rw [e] at hc
    have hc2 : c ∈ upd sf1.chs 2 [] 2 := hc
    rw [upd_same] at hc2
    cases hc2
end Go.Proofs.Ytljhhdpeakencaa

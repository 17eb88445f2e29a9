/- Texts joined: ShK ShL ShM. -/
import Derived.Test.YtjbhegakgdcldaaJ7
section
set_option linter.unusedSimpArgs false
set_option linter.unusedVariables false
set_option maxRecDepth 100000
namespace Go.Proofs.Ytjbhegakgdcldaa
open Go.RowKit

/-! cut, endMove, move. -/
def C4 (b o d f n : Nat) (pv : Value) (w' : World) : Prop := w'.cell? ⟨b, o, none⟩ = some (.pointer (some ⟨d, 0, none⟩)) ∧ w'.cell? ⟨b, o + 1, none⟩ = some (.int .i64 (f : Int)) ∧ w'.cell? ⟨b, o + 2, none⟩ = some (.int .i64 (n : Int)) ∧ w'.cell? ⟨b, o + 3, none⟩ = some pv
theorem C4.drew {b o d f n : Nat} {pv : Value} {w' : World} (h : C4 b o d f n pv w') : C4 b o d f n pv w'.drew := h
section
variable {w W W' : World} {O P : Nat → Nat} {vs : Value → Bool → Array Value} {b o d f n : Nat} {t : TypeId} {ps ps' : List Pl} {fl fl' : Bool} {D : Ds} {pv v' : Value}
theorem cutR_off (h : fndE D.off f ≠ 0) : cutR f n D ps = ⟨fndE D.off f, D, ps⟩ := if_pos h
theorem cutR_same (h : fndE D.off f = 0) (h2 : (D.now f).length = ps.length * n) : cutR f n D ps = ⟨0, D, ps⟩ := by
  unfold cutR
  rw [if_neg (by rw [h]; simp), if_pos h2]
theorem cutR_no (h : fndE D.off f = 0) (h2 : (D.now f).length ≠ ps.length * n) (h3 : cutE D f (ps.length * n : Nat) ≠ 0) : cutR f n D ps = ⟨cutE D f (ps.length * n : Nat), cutD D f (ps.length * n : Nat), ps⟩ := by
  unfold cutR
  rw [if_neg (by rw [h]; simp), if_neg h2, if_pos h3]
theorem cutR_ok (h : fndE D.off f = 0) (h2 : (D.now f).length ≠ ps.length * n) (h3 : cutE D f (ps.length * n : Nat) = 0) : cutR f n D ps = ⟨cntE (cutD D f (ps.length * n : Nat)) f, psyD (cutD D f (ps.length * n : Nat)) f, ps⟩ := by
  unfold cutR
  rw [if_neg (by rw [h]; simp), if_neg h2, if_neg (by rw [h3]; simp)]
set_option maxHeartbeats 4000000 in
theorem cut10 (hx : Box vs o d f n t) (h : SH w W d O P vs b t D ps fl) {q : Nat} (hf : Few D q) (hq : q + 1 ≤ 1000) (hl : ps.length ≤ 500) :
    Calls Try.prog 79 #[.pointer (some ⟨b, o, none⟩)] W fun e w' => e = .returned (.int .i64 (cutR f n D ps).e) ∧ Post10 w d vs b t O P W (cutR f n D ps).D (cutR f n D ps).ps fl w' := by
  have HH : Hid (SH w W d O P vs b t D ps fl) := h
  obtain ⟨pv, hs⟩ := h.sb
  have hn := hx.n1
  have c3 := hs.c3 hx
  obtain ⟨ad, cap, rfl, _⟩ := hs.row.shape
  obtain ⟨c0, c1, c2⟩ := h.c3s hx
  have lb := h.blt
  have hT : C3 b o d f n W.drew := h.drew.c3s hx
  have hmul : ((ps.length * n : Nat) : Int) = (ps.length : Int) * (n : Int) := Int.natCast_mul ..
  have hml : ps.length * n ≤ 512000 := Nat.le_trans (Nat.mul_le_mul hl hn.2) (by omega)
  have hw : IntKind.i64.wrap ((ps.length : Int) * (n : Int)) = ((ps.length * n : Nat) : Int) := by
    rw [IntKind.wrap_i64, ← hmul]
    omega
  have HSz : Hid (Calls Try.prog 28 #[.pointer (some ⟨d, 0, none⟩), .int .i64 (f : Int)] W.drew.drew fun e w' => e = .returned (.tuple #[.int .i64 (sizeV D f), .int .i64 (fndE D.off f)]) ∧ w' = W.drew.drew) := d1Size h.drew.drew.d1 f
  have HCt : Hid (Calls Try.prog 92 #[.pointer (some ⟨d, 0, none⟩), .int .i64 (f : Int), .int .i64 ((ps.length * n : Nat) : Int)] W.drew.drew.drew fun e w' => e = .returned (.int .i64 (cutE D f (ps.length * n : Nat))) ∧ ∃ O', SH w w' d O' P vs b t (cutD D f (ps.length * n : Nat)) ps fl ∧ Fp (fun k => O k + P k) W (fun k => O' k + P k) w') := by
    refine (d1Cut h.drew.drew.drew.d1 hf (by omega) f (ps.length * n : Nat)).mono ?_
    rintro e w' ⟨rfl, O', h1, h2⟩
    obtain ⟨h3, h4⟩ := h.drew.drew.drew.disk h1 h2
    exact ⟨rfl, O', h3, (Fp.of_below _ (((Below.refl _ _).drew).trans (((Below.refl _ _).drew).trans (Below.refl _ _).drew))).trans h4⟩
  have HSy : Hid (∀ w1 O1, SH w w1 d O1 P vs b t (cutD D f (ps.length * n : Nat)) ps fl → Calls Try.prog 76 #[.pointer (some ⟨d, 0, none⟩), .int .i64 (f : Int)] w1.drew fun e w' => e = .returned (.int .i64 (cntE (cutD D f (ps.length * n : Nat)) f)) ∧ ∃ O', SH w w' d O' P vs b t (psyD (cutD D f (ps.length * n : Nat)) f) ps fl ∧ Fp (fun k => O1 k + P k) w1 (fun k => O' k + P k) w') := fun w1 O1 h1 => by
    refine (d1Sync h1.drew.d1 (hf.cutD f (ps.length * n : Nat)) hq f).mono ?_
    rintro e w' ⟨rfl, O', h2, h3⟩
    obtain ⟨h4, h5⟩ := h1.drew.disk h2 h3
    exact ⟨rfl, O', h4, (Fp.of_below _ (Below.refl _ _).drew).trans h5⟩
  have HC : Hid (∀ w1 O1 D1, SH w w1 d O1 P vs b t D1 ps fl → C3 b o d f n w1 ∧ b < w1.heap.size) := fun w1 O1 D1 h1 => ⟨h1.c3s hx, h1.blt⟩
  have HP0 : Hid (Post10 w d vs b t O P W D ps fl W.drew.drew) := ⟨O, P, h.drew.drew, Fp.of_below _ (((Below.refl _ _).drew).trans (Below.refl _ _).drew)⟩
  clear hs hf h hx
  by_cases h0 : fndE D.off f = 0
  · have esz : sizeV D f = ((D.now f).length : Int) := by unfold sizeV; rw [if_pos h0, Int.toNat_natCast]
    rw [esz, h0] at HSz
    by_cases h1 : (D.now f).length = ps.length * n
    · rw [cutR_same h0 h1]
      rw [h1] at HSz
      clear HCt HSy
      show Calls Try.prog 79 #[.pointer (some ⟨b, o, none⟩)] W fun e w' => e = .returned (.int .i64 0) ∧ Post10 w d vs b t O P W D ps fl w'
      clear hmul h1 esz h0
      generalize ps.length * n = L at *
      generalize ps.length = len at *
      go_enter Try.func79, Try.ntmps79
      go_upto_region 1 with fail
      go_region
      go_upto_region 2 with fail
      go_region_held3 (fun w' => w'.cell? ⟨b, o, none⟩ = some (.pointer (some ⟨d, 0, none⟩)) ∧ w'.cell? ⟨b, o + 1, none⟩ = some (.int .i64 (f : Int)) ∧ w'.cell? ⟨b, o + 2, none⟩ = some (.int .i64 (n : Int))) ((show C3 b o d f n _; repeat (first | with_reducible exact hT | with_reducible refine C3.drew ?_))) ((go_at_call 28; refine Calls.mono HSz.out ?_; rintro e w8 ⟨rfl, hw8⟩; have hw8 := hw8.symm; subst hw8))
      go_wp2_with fail
      go_ret
      exact ⟨rfl, HP0.out⟩
    · have hne1 : ¬ ((D.now f).length : Int) = ((ps.length * n : Nat) : Int) := by omega
      by_cases h3 : cutE D f (ps.length * n : Nat) = 0
      · rw [cutR_ok h0 h1 h3]
        rw [h3] at HCt
        show Calls Try.prog 79 #[.pointer (some ⟨b, o, none⟩)] W fun e w' => e = .returned (.int .i64 (cntE (cutD D f (ps.length * n : Nat)) f)) ∧ Post10 w d vs b t O P W (psyD (cutD D f (ps.length * n : Nat)) f) ps fl w'
        clear hmul h1 esz h0 h3 HP0
        generalize cutD D f (ps.length * n : Nat) = D1 at *
        generalize cntE D1 f = sv at *
        generalize psyD D1 f = D2 at *
        generalize ps.length * n = L at *
        generalize (D.now f).length = ln at *
        generalize ps.length = len at *
        go_enter Try.func79, Try.ntmps79
        go_upto_region 1 with fail
        go_region
        go_upto_region 2 with fail
        go_region_held3 (fun w' => w'.cell? ⟨b, o, none⟩ = some (.pointer (some ⟨d, 0, none⟩)) ∧ w'.cell? ⟨b, o + 1, none⟩ = some (.int .i64 (f : Int)) ∧ w'.cell? ⟨b, o + 2, none⟩ = some (.int .i64 (n : Int))) ((show C3 b o d f n _; repeat (first | with_reducible exact hT | with_reducible refine C3.drew ?_))) ((go_at_call 28; refine Calls.mono HSz.out ?_; rintro e w8 ⟨rfl, hw8⟩; have hw8 := hw8.symm; subst hw8))
        go_upto_region 5 with fail
        go_region_held3 (fun w' => w'.cell? ⟨b, o, none⟩ = some (.pointer (some ⟨d, 0, none⟩)) ∧ w'.cell? ⟨b, o + 1, none⟩ = some (.int .i64 (f : Int)) ∧ w'.cell? ⟨b, o + 2, none⟩ = some (.int .i64 (n : Int))) ((show C3 b o d f n _; repeat (first | with_reducible exact hT | with_reducible refine C3.drew ?_))) ((go_at_call 92; refine Calls.mono HCt.out ?_; rintro e w9 ⟨rfl, O9, h9, f9⟩; have hT := (HC.out _ _ _ h9).1; have lb := (HC.out _ _ _ h9).2; have H9 : Hid (SH w w9 d O9 P vs b t D1 ps fl ∧ Fp (fun k => O k + P k) W (fun k => O9 k + P k) w9) := ⟨h9, f9⟩; clear h9 f9))
        go_upto_region 8 with fail
        go_region_held3 (fun w' => w'.cell? ⟨b, o, none⟩ = some (.pointer (some ⟨d, 0, none⟩)) ∧ w'.cell? ⟨b, o + 1, none⟩ = some (.int .i64 (f : Int)) ∧ w'.cell? ⟨b, o + 2, none⟩ = some (.int .i64 (n : Int))) ((show C3 b o d f n _; repeat (first | with_reducible exact hT | with_reducible refine C3.drew ?_))) ((go_at_call 76; refine Calls.mono (HSy.out _ _ H9.out.1) ?_; rintro e w10 ⟨rfl, O10, h10, f10⟩; have hT := (HC.out _ _ _ h10).1; have H10 : Hid (Post10 w d vs b t O P W D2 ps fl w10) := ⟨O10, P, h10, H9.out.2.trans f10⟩; clear h10 f10))
        go_wp2_with fail
        go_ret
        exact ⟨rfl, H10.out⟩
      · rw [cutR_no h0 h1 h3]
        clear HSy
        show Calls Try.prog 79 #[.pointer (some ⟨b, o, none⟩)] W fun e w' => e = .returned (.int .i64 (cutE D f (ps.length * n : Nat))) ∧ Post10 w d vs b t O P W (cutD D f (ps.length * n : Nat)) ps fl w'
        have hne3 : (cutE D f (ps.length * n : Nat) != 0) = true := by rw [bne_iff_ne]; exact h3
        clear hmul h1 esz h0 h3 HP0
        generalize cutD D f (ps.length * n : Nat) = D1 at *
        generalize cutE D f (ps.length * n : Nat) = ev at *
        generalize ps.length * n = L at *
        generalize (D.now f).length = ln at *
        generalize ps.length = len at *
        go_enter Try.func79, Try.ntmps79
        go_upto_region 1 with fail
        go_region
        go_upto_region 2 with fail
        go_region_held3 (fun w' => w'.cell? ⟨b, o, none⟩ = some (.pointer (some ⟨d, 0, none⟩)) ∧ w'.cell? ⟨b, o + 1, none⟩ = some (.int .i64 (f : Int)) ∧ w'.cell? ⟨b, o + 2, none⟩ = some (.int .i64 (n : Int))) ((show C3 b o d f n _; repeat (first | with_reducible exact hT | with_reducible refine C3.drew ?_))) ((go_at_call 28; refine Calls.mono HSz.out ?_; rintro e w8 ⟨rfl, hw8⟩; have hw8 := hw8.symm; subst hw8))
        go_upto_region 5 with fail
        go_region_held3 (fun w' => w'.cell? ⟨b, o, none⟩ = some (.pointer (some ⟨d, 0, none⟩)) ∧ w'.cell? ⟨b, o + 1, none⟩ = some (.int .i64 (f : Int)) ∧ w'.cell? ⟨b, o + 2, none⟩ = some (.int .i64 (n : Int))) ((show C3 b o d f n _; repeat (first | with_reducible exact hT | with_reducible refine C3.drew ?_))) ((go_at_call 92; refine Calls.mono HCt.out ?_; rintro e w9 ⟨rfl, O9, h9, f9⟩; have hT := (HC.out _ _ _ h9).1; have H9 : Hid (Post10 w d vs b t O P W D1 ps fl w9) := ⟨O9, P, h9, f9⟩; clear h9 f9))
        go_wp2_with fail
        go_ret
        exact ⟨rfl, H9.out⟩
  · have esz : sizeV D f = 0 := by unfold sizeV; rw [if_neg h0]
    rw [cutR_off h0]
    rw [esz] at HSz
    have hne3 : (fndE D.off f != 0) = true := by rw [bne_iff_ne]; exact h0
    clear HCt HSy
    show Calls Try.prog 79 #[.pointer (some ⟨b, o, none⟩)] W fun e w' => e = .returned (.int .i64 (fndE D.off f)) ∧ Post10 w d vs b t O P W D ps fl w'
    clear hmul esz h0
    generalize fndE D.off f = ev at *
    generalize ps.length * n = L at *
    generalize ps.length = len at *
    go_enter Try.func79, Try.ntmps79
    go_upto_region 1 with fail
    go_region
    go_upto_region 2 with fail
    go_region_held3 (fun w' => w'.cell? ⟨b, o, none⟩ = some (.pointer (some ⟨d, 0, none⟩)) ∧ w'.cell? ⟨b, o + 1, none⟩ = some (.int .i64 (f : Int)) ∧ w'.cell? ⟨b, o + 2, none⟩ = some (.int .i64 (n : Int))) ((show C3 b o d f n _; repeat (first | with_reducible exact hT | with_reducible refine C3.drew ?_))) ((go_at_call 28; refine Calls.mono HSz.out ?_; rintro e w8 ⟨rfl, hw8⟩; have hw8 := hw8.symm; subst hw8))
    go_wp2_with fail
    go_ret
    exact ⟨rfl, HP0.out⟩
end
end Go.Proofs.Ytjbhegakgdcldaa
end
section
set_option linter.unusedSimpArgs false
set_option linter.unusedVariables false
set_option maxRecDepth 100000
namespace Go.Proofs.Ytjbhegakgdcldaa
open Go.RowKit

/-! endMove, move. -/
section
variable {w W W' : World} {O P : Nat → Nat} {vs : Value → Bool → Array Value} {b o d f n : Nat} {t : TypeId} {ps ps' : List Pl} {fl fl' : Bool} {D : Ds} {pv v' : Value}
theorem setP_length {at_ : Nat} {p : Pl} (h : at_ < ps.length) : (setP ps at_ p).length = ps.length := by
  unfold setP
  rw [if_neg (by omega), List.length_set]
theorem setP_ge {at_ : Nat} {p : Pl} : ps.length ≤ (setP ps at_ p).length ∧ (setP ps at_ p).length ≤ ps.length + 1 := by
  unfold setP
  split
  · simp
  · rw [List.length_set]; omega
theorem mkR_len {at_ : Nat} {p : Pl} (h : at_ < ps.length) : (mkR f n at_ p D ps).ps.length = ps.length := by
  unfold mkR
  simp only []
  split
  · rfl
  · exact setP_length h
theorem mkR_few {q : Nat} (hf : Few D q) (at_ : Nat) (p : Pl) : Few (mkR f n at_ p D ps).D (q + 1) := hf.swD _ _ _
theorem next_no {r : Rs} {k : Ds → List Pl → Rs} (h : r.e ≠ 0) : r.next k = r := if_pos h
theorem next_ok {r : Rs} {k : Ds → List Pl → Rs} (h : r.e = 0) : r.next k = k r.D r.ps := if_neg (by rw [h]; simp)
set_option maxHeartbeats 4000000 in
theorem endMove10 (hx : Box vs o d f n t) (h : SH w W d O P vs b t D ps fl) {q : Nat} (hf : Few D q) (hq : q + 2 ≤ 1000) (hl : ps.length ≤ 500) (tg : Nat) (htg : tg < ps.length) (hm : 2 ≤ (ps.getD tg pl0).m.toNat) (hm2 : (ps.getD tg pl0).m.toNat - 2 < ps.length) :
    Calls Try.prog 77 #[.pointer (some ⟨b, o, none⟩), .int .i64 (tg : Int)] W fun e w' => e = .returned (.int .i64 (emR f n tg D ps).e) ∧ Post10 w d vs b t O P W (emR f n tg D ps).D (emR f n tg D ps).ps fl w' ∧ Cs b o W w' := by
  have HH : Hid (SH w W d O P vs b t D ps fl) := h
  have hbx : ∀ (u v : Value), Below W.heap.size W (W.alloc (.cells #[u, v] 94)) := fun u v => (Below.refl _ W).alloc (Nat.le_refl _) _
  have HBx : Hid (O W.heap.size + P W.heap.size = 0) := by show _ = 0; rw [h.d1.new (Nat.le_refl _), h.pnew (Nat.le_refl _)]
  obtain ⟨k, hk⟩ : ∃ k, k = (ps.getD tg pl0).m.toNat - 2 := ⟨_, rfl⟩
  have hkm : (((ps.getD tg pl0).m.toNat : Nat) : Int) - 2 = (k : Int) := by omega
  have em : emR f n tg D ps = (mkR f n k pl0 D ps).next fun D' ps' => mkR f n tg ⟨1, (ps.getD tg pl0).tx⟩ D' ps' := by rw [hk]; rfl
  have HM1 : Hid (∀ u v, Calls Try.prog 61 #[.pointer (some ⟨b, o, none⟩), .int .i64 (k : Int), .agg #[.int .u8 0, .string ⟨#[]⟩]] (W.alloc (.cells #[u, v] 94)) fun e w' => e = .returned (.int .i64 (mkR f n k pl0 D ps).e) ∧ Post10 w d vs b t O P (W.alloc (.cells #[u, v] 94)) (mkR f n k pl0 D ps).D (mkR f n k pl0 D ps).ps fl w' ∧ Cs b o W w') := fun u v => by
    refine (mark10c hx (h.below (hbx u v)) hf (by omega) hl k (by omega) pl0).mono ?_
    rintro e w' ⟨h1, h2, h3⟩
    exact ⟨h1, h2, (h.csb o (hbx u v)).trans (h3 (by omega))⟩
  have HM2 : Hid (∀ w2 O2 P2, SH w w2 d O2 P2 vs b t (mkR f n k pl0 D ps).D (mkR f n k pl0 D ps).ps fl → Calls Try.prog 61 #[.pointer (some ⟨b, o, none⟩), .int .i64 (tg : Int), .agg #[.int .u8 1, .string (ps.getD tg pl0).tx]] w2 fun e w' => e = .returned (.int .i64 (mkR f n tg ⟨1, (ps.getD tg pl0).tx⟩ (mkR f n k pl0 D ps).D (mkR f n k pl0 D ps).ps).e) ∧ Post10 w d vs b t O2 P2 w2 (mkR f n tg ⟨1, (ps.getD tg pl0).tx⟩ (mkR f n k pl0 D ps).D (mkR f n k pl0 D ps).ps).D (mkR f n tg ⟨1, (ps.getD tg pl0).tx⟩ (mkR f n k pl0 D ps).D (mkR f n k pl0 D ps).ps).ps fl w' ∧ Cs b o w2 w') := fun w2 O2 P2 h2 => by
    have hl2 : (mkR f n k pl0 D ps).ps.length = ps.length := mkR_len (by omega)
    refine (mark10c hx h2 (mkR_few hf k pl0) (by omega) (by omega) tg (by omega) ⟨1, (ps.getD tg pl0).tx⟩).mono ?_
    rintro e w' ⟨h1, h3, h4⟩
    exact ⟨h1, h3, h4 (by omega)⟩
  obtain ⟨pv, hs⟩ := h.sb
  obtain ⟨g, cap, rfl, hcap, hg, k0, k1, kf⟩ := hs.row.at tg htg
  have c3 := hs.c3 hx
  have lb := hs.bk.lt
  have hti : (tg : Int) < (ps.length : Int) := by omega
  have hx1 : ∀ (u v : Value) w', Fp (fun k => O k + P k) (W.alloc (.cells #[u, v] 94)) (fun k => O k + P k) w' → True := fun _ _ _ _ => trivial
  have hwm : IntKind.i64.wrap (((ps.getD tg pl0).m.toNat : Int) - 2) = (k : Int) := by rw [hkm, IntKind.wrap_i64]; have := (ps.getD tg pl0).m.toNat_lt; omega
  rw [em]
  have hbox : ∀ (u v : Value), Bk (W.alloc (.cells #[u, v] 94)) W.heap.size #[u, v] 94 := fun u v => Bk.new _ _ _
  have HBk : Hid (∀ (u v : Value), Bk (W.alloc (.cells #[u, v] 94)) W.heap.size #[u, v] 94) := hbox
  have HBl : Hid (∀ (u v : Value), Fp (fun k => O k + P k) W (fun k => O k + P k) (W.alloc (.cells #[u, v] 94))) := fun u v => h.fp_below (hbx u v)
  by_cases hz : (mkR f n k pl0 D ps).e = 0
  · rw [next_ok hz]
    rw [hz] at HM1
    generalize mkR f n k pl0 D ps = R1 at *
    generalize mkR f n tg ⟨1, (ps.getD tg pl0).tx⟩ R1.D R1.ps = R2 at *
    have hwm2 : IntKind.i64.wrap ((ps.getD tg pl0).m.toNat : Int) = ((ps.getD tg pl0).m.toNat : Int) := by rw [IntKind.wrap_i64]; have := (ps.getD tg pl0).m.toNat_lt; omega
    clear hkm hs h hx hf hm hm2 hk em hbx hx1 hbox hcap kf hz
    generalize ((ps.getD tg pl0).m.toNat : Int) = m at *
    generalize (ps.getD tg pl0).tx = tx at *
    generalize ps.length = len at *
    go_enter Try.func77, Try.ntmps77
    go_wp2_with (go_at_call 61; refine stop10 ?_)
    unfold Hold10
    refine Calls.mono (HM1.out _ _) ?_
    rintro e w8 ⟨rfl, ⟨O8, P8, h8, f8⟩, s8⟩
    have S8 : Hid (Cs b o W w8) := s8
    clear s8
    have hb8 := f8.bk (HBk.out _ _) HBx.out
    have y0 := hb8.cell 0
    have y1 := hb8.cell 1
    simp only [List.getElem?_toArray, List.getElem?_cons_zero, List.getElem?_cons_succ] at y0 y1
    have HF8 := (HBl.out (.int .u8 m) (.string tx)).trans f8
    have H8 : Hid (SH w w8 d O8 P8 vs b t R1.D R1.ps fl) := h8
    have HF : Hid (Fp (fun k => O k + P k) W (fun k => O8 k + P8 k) w8) := HF8
    clear hb8 h8 f8 HF8
    go_wp2_with (go_at_call 61; refine stop10 ?_)
    unfold Hold10
    refine Calls.mono (HM2.out w8 O8 P8 H8.out) ?_
    rintro e w9 ⟨rfl, h9, s9⟩
    go_wp2_with fail
    go_ret
    exact ⟨rfl, h9.pre HF.out, S8.out.trans s9⟩
  · rw [next_no hz]
    generalize mkR f n k pl0 D ps = R1 at *
    have hne3 : (R1.e != 0) = true := by rw [bne_iff_ne]; exact hz
    have hwm2 : IntKind.i64.wrap ((ps.getD tg pl0).m.toNat : Int) = ((ps.getD tg pl0).m.toNat : Int) := by rw [IntKind.wrap_i64]; have := (ps.getD tg pl0).m.toNat_lt; omega
    clear hkm hs h hx hf hm hm2 hk em hbx hx1 hbox hcap kf hz HM2
    generalize ((ps.getD tg pl0).m.toNat : Int) = m at *
    generalize (ps.getD tg pl0).tx = tx at *
    generalize ps.length = len at *
    go_enter Try.func77, Try.ntmps77
    go_wp2_with (go_at_call 61; refine stop10 ?_)
    unfold Hold10
    refine Calls.mono (HM1.out _ _) ?_
    rintro e w8 ⟨rfl, h8, s8⟩
    go_wp2_with fail
    go_ret
    exact ⟨rfl, h8.pre (HBl.out _ _), s8⟩
end
end Go.Proofs.Ytjbhegakgdcldaa
end
section
set_option linter.unusedSimpArgs false
set_option linter.unusedVariables false
set_option maxRecDepth 100000
namespace Go.Proofs.Ytjbhegakgdcldaa
open Go.RowKit

/-! What was told OK leaves no more changes than there were; move. -/
theorem wrD_other (D : Ds) (f p : Int) (bs : List UInt8) (i : Nat) (hi : i ≠ f.toNat) : (wrD D f p bs).chs i = D.chs i := by
  by_cases hw : wrE D f p bs.length = 0
  · rw [wrD_ok hw]
    exact upd_other _ _ hi
  · rw [wrD_no hw]; rfl
theorem sw_calm {D : Ds} {q f p : Nat} {bs : List UInt8} (h : Few D q) (he : swE D f p bs = 0) : Few (swD D f p bs) q := by
  have h1 := h.swD f p bs
  refine ⟨h1.inv, fun i hi => ?_⟩
  unfold swE at he
  by_cases hw : wrE D f p bs.length = 0
  · rw [if_neg (by rw [hw]; simp)] at he
    have e : swD D f p bs = psyD (wrD D f p bs) f := by unfold swD; rw [if_neg (by rw [hw]; simp)]
    rw [e, psyD_ok he]
    show (upd (wrD D f p bs).chs (f : Int).toNat [] i).length ≤ _
    rw [Int.toNat_natCast]
    by_cases e2 : i = f
    · rw [e2, upd_same]; simp
    · rw [upd_other _ _ e2, wrD_other D f p bs i (by rw [Int.toNat_natCast]; exact e2)]
      exact h.few i hi
  · rw [if_pos hw] at he; exact absurd he hw
/-- So many changes where it was told OK, and one write's more at most. -/
def FewE (r : Rs) (q : Nat) : Prop := (r.e = 0 → Few r.D q) ∧ Few r.D (q + 1)
theorem FewE.next {r : Rs} {q : Nat} {k : Ds → List Pl → Rs} (h : FewE r q) (hk : r.e = 0 → Few r.D q → FewE (k r.D r.ps) q) : FewE (r.next k) q := by
  by_cases he : r.e = 0
  · rw [next_ok he]; exact hk he (h.1 he)
  · rw [next_no he]; exact h
theorem FewE.ret {D : Ds} {q : Nat} {ps : List Pl} (h : Few D q) : FewE ⟨0, D, ps⟩ q := ⟨fun _ => h, h.le (by omega)⟩
theorem mkR_fe {D : Ds} {q f n at_ : Nat} {p : Pl} {ps : List Pl} (h : Few D q) : FewE (mkR f n at_ p D ps) q := ⟨fun he => sw_calm h he, h.swD _ _ _⟩
theorem lyR_fe {D : Ds} {q f n at_ : Nat} {p : Pl} {ps : List Pl} (h : Few D q) : FewE (lyR f n at_ p D ps) q := by
  by_cases he : swE D f (at_ * n) (img n p.tx) = 0
  · rw [lyR_ok he]; exact mkR_fe (sw_calm h he)
  · rw [lyR_no he]; exact ⟨fun h9 => absurd h9 he, h.swD _ _ _⟩
theorem emR_fe {D : Ds} {q f n tg : Nat} {ps : List Pl} (h : Few D q) : FewE (emR f n tg D ps) q := (mkR_fe h).next fun _ h1 => mkR_fe h1
theorem mvR_fe {D : Ds} {q f n src tg : Nat} {tx : ByteArray} {ps : List Pl} (h : Few D q) : FewE (mvR f n src tg tx D ps) q := by
  unfold mvR
  split
  · exact FewE.ret h
  · exact (lyR_fe h).next fun _ h1 => emR_fe h1
theorem endsR_fe {f n q : Nat} : ∀ (k at_ : Nat) {D : Ds} {ps : List Pl}, Few D q → FewE (endsR f n k at_ D ps) q
  | 0, _, D, ps, h => FewE.ret h
  | k + 1, at_, D, ps, h => by
    unfold endsR
    split
    · exact endsR_fe k _ h
    · exact (emR_fe h).next fun _ h1 => endsR_fe k _ h1
theorem mvsR_fe {f n q : Nat} : ∀ (l : List (Nat × ByteArray)) (tg : Nat) {D : Ds} {ps : List Pl}, Few D q → FewE (mvsR f n l tg D ps) q
  | [], _, D, ps, h => FewE.ret h
  | x :: xs, tg, D, ps, h => (mvR_fe h).next fun _ h1 => mvsR_fe xs _ h1
section
variable {w W W' : World} {O P : Nat → Nat} {vs : Value → Bool → Array Value} {b o d f n : Nat} {t : TypeId} {ps ps' : List Pl} {fl fl' : Bool} {D : Ds} {pv v' : Value}
theorem lyR_ps {at_ : Nat} {p : Pl} (h : (lyR f n at_ p D ps).e = 0) : (lyR f n at_ p D ps).ps = setP ps at_ p := by
  by_cases he : swE D f (at_ * n) (img n p.tx) = 0
  · rw [lyR_ok he] at h ⊢
    unfold mkR at h ⊢
    simp only [] at h ⊢
    rw [if_neg (by rw [h]; simp)]
  · rw [lyR_no he] at h; exact absurd h he
theorem mkR_ps {at_ : Nat} {p : Pl} (h : (mkR f n at_ p D ps).e = 0) : (mkR f n at_ p D ps).ps = setP ps at_ p := by
  unfold mkR at h ⊢
  simp only [] at h ⊢
  rw [if_neg (by rw [h]; simp)]
theorem setP_at {at_ : Nat} {p : Pl} (h : at_ < ps.length) : (setP ps at_ p).getD at_ pl0 = p := by
  unfold setP
  rw [if_neg (by omega)]
  simp [List.getD, h]
set_option maxHeartbeats 4000000 in
theorem move10 (hx : Box vs o d f n t) (h : SH w W d O P vs b t D ps fl) {q : Nat} (hf : Few D q) (hq : q + 3 ≤ 1000) (hl : ps.length ≤ 128) (src tg : Nat) (hts : tg ≤ src) (hsl : src < ps.length) (tx : ByteArray) (ht : tx.size + 16 ≤ n) :
    Calls Try.prog 78 #[.pointer (some ⟨b, o, none⟩), .int .i64 (src : Int), .int .i64 (tg : Int), .string tx] W fun e w' => e = .returned (.int .i64 (mvR f n src tg tx D ps).e) ∧ Post10 w d vs b t O P W (mvR f n src tg tx D ps).D (mvR f n src tg tx D ps).ps fl w' ∧ Cs b o W w' := by
  have HP0 : Hid (Post10 w d vs b t O P W D ps fl W) := Post10.refl h
  by_cases he : src = tg
  · subst he
    have e : mvR f n src src tx D ps = ⟨0, D, ps⟩ := if_pos rfl
    rw [e]
    clear h e
    go_enter Try.func78, Try.ntmps78
    go_wp2_with fail
    go_ret
    exact ⟨rfl, HP0.out, Cs.refl _ _ _⟩
  have hei : ¬ (src : Int) = (tg : Int) := by omega
  have e : mvR f n src tg tx D ps = (lyR f n tg ⟨UInt8.ofNat (2 + src), tx⟩ D ps).next fun D' ps' => emR f n tg D' ps' := if_neg he
  rw [e]
  have hm : (UInt8.ofNat (2 + src)).toNat = 2 + src := by rw [UInt8.toNat_ofNat']; omega
  have hmi : ((UInt8.ofNat (2 + src)).toNat : Int) = 2 + (src : Int) := by omega
  have hw1 : IntKind.i64.wrap (2 + (src : Int)) = 2 + (src : Int) := by rw [IntKind.wrap_i64]; omega
  have hw2 : IntKind.u8.wrap (2 + (src : Int)) = 2 + (src : Int) := by
    have : IntKind.u8.wrap (2 + (src : Int)) = (2 + (src : Int)) % 256 := rfl
    rw [this]; omega
  have HLy : Hid (Calls Try.prog 65 #[.pointer (some ⟨b, o, none⟩), .int .i64 (tg : Int), .agg #[.int .u8 (2 + (src : Int)), .string tx]] W fun e w' => e = .returned (.int .i64 (lyR f n tg ⟨UInt8.ofNat (2 + src), tx⟩ D ps).e) ∧ Post10 w d vs b t O P W (lyR f n tg ⟨UInt8.ofNat (2 + src), tx⟩ D ps).D (lyR f n tg ⟨UInt8.ofNat (2 + src), tx⟩ D ps).ps fl w' ∧ Cs b o W w') := by
    have := lay10c hx h hf (by omega) (by omega) tg (by omega) ⟨UInt8.ofNat (2 + src), tx⟩ ht
    rw [hmi] at this
    refine this.mono ?_
    rintro e w' ⟨h1, h2, h3⟩
    exact ⟨h1, h2, h3 (by omega)⟩
  clear e
  by_cases hz : (lyR f n tg ⟨UInt8.ofNat (2 + src), tx⟩ D ps).e = 0
  · rw [next_ok hz]
    have hps := lyR_ps hz
    have hfe := (lyR_fe (f := f) (n := n) (at_ := tg) (p := ⟨UInt8.ofNat (2 + src), tx⟩) (ps := ps) hf).1 hz
    rw [hz] at HLy
    generalize lyR f n tg ⟨UInt8.ofNat (2 + src), tx⟩ D ps = R1 at *
    have hat : R1.ps.getD tg pl0 = ⟨UInt8.ofNat (2 + src), tx⟩ := by rw [hps]; exact setP_at (by omega)
    have hlen : R1.ps.length = ps.length := by rw [hps]; exact setP_length (by omega)
    have HE : Hid (∀ w2 O2 P2, SH w w2 d O2 P2 vs b t R1.D R1.ps fl → Calls Try.prog 77 #[.pointer (some ⟨b, o, none⟩), .int .i64 (tg : Int)] w2 fun e w' => e = .returned (.int .i64 (emR f n tg R1.D R1.ps).e) ∧ Post10 w d vs b t O2 P2 w2 (emR f n tg R1.D R1.ps).D (emR f n tg R1.D R1.ps).ps fl w' ∧ Cs b o w2 w') := fun w2 O2 P2 h2 =>
      endMove10 hx h2 hfe (by omega) (by omega) tg (by omega) (by rw [hat]; show 2 ≤ (UInt8.ofNat (2 + src)).toNat; omega) (by rw [hat]; show (UInt8.ofNat (2 + src)).toNat - 2 < _; omega)
    generalize emR f n tg R1.D R1.ps = R2 at *
    clear hx h hf hps hfe hat hlen hm hmi hz HP0
    go_enter Try.func78, Try.ntmps78
    go_wp2_with (first
      | (go_at_call 65; refine Calls.mono HLy.out ?_; rintro e w8 ⟨rfl, ⟨O8, P8, h8, f8⟩, s8⟩; have S8 : Hid (Cs b o W w8) := s8; clear s8; have H8 : Hid (SH w w8 d O8 P8 vs b t R1.D R1.ps fl) := h8; have F8 : Hid (Fp (fun k => O k + P k) W (fun k => O8 k + P8 k) w8) := f8; clear h8 f8)
      | (go_at_call 77; refine Calls.mono (HE.out _ _ _ H8.out) ?_; rintro e w9 ⟨rfl, h9, s9⟩))
    go_ret
    exact ⟨rfl, h9.pre F8.out, S8.out.trans s9⟩
  · rw [next_no hz]
    generalize lyR f n tg ⟨UInt8.ofNat (2 + src), tx⟩ D ps = R1 at *
    have hne3 : (R1.e != 0) = true := by rw [bne_iff_ne]; exact hz
    clear hx h hf hm hmi hz HP0
    go_enter Try.func78, Try.ntmps78
    go_wp2_with (go_at_call 65; refine Calls.mono HLy.out ?_; rintro e w8 ⟨rfl, h8, s8⟩)
    go_ret
    exact ⟨rfl, h8, s8⟩
end
end Go.Proofs.Ytjbhegakgdcldaa
end

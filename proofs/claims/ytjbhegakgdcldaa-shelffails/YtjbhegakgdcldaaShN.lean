import Derived.Test.YtjbhegakgdcldaaJ9
set_option linter.unusedSimpArgs false
set_option linter.unusedVariables false
set_option maxRecDepth 100000
namespace Go.Proofs.Ytjbhegakgdcldaa
open Go.RowKit Go.Shelf
attribute [local go_sem] Oper.semAt_some

/-! settle. -/
def S3 (X1 b o d f : Nat) (w' : World) : Prop := w'.cell? ⟨X1, 0, none⟩ = some (.pointer (some ⟨b, o, none⟩)) ∧ w'.cell? ⟨b, o, none⟩ = some (.pointer (some ⟨d, 0, none⟩)) ∧ w'.cell? ⟨b, o + 1, none⟩ = some (.int .i64 (f : Int))
theorem S3.drew {X1 b o d f : Nat} {w' : World} (h : S3 X1 b o d f w') : S3 X1 b o d f w'.drew := h
section
variable {w W W' : World} {O P : Nat → Nat} {vs : Value → Bool → Array Value} {b o d f n : Nat} {t : TypeId} {ps ps' : List Pl} {fl fl' : Bool} {D : Ds} {pv v' : Value}
theorem settle_end {O8 P8 : Nat → Nat} {A : World} {X2 : Nat} {x v : Value} {t' : TypeId} (h8 : SH w A d O8 P8 vs b t D ps fl) (u : UB O8 P8 A X2 #[x] t') (f8 : Fp (fun k => O k + P k) W (fun k => O8 k + P8 k) A) (hX : W.heap.size ≤ X2) (hw : w.heap.size ≤ W.heap.size) :
    Post10 w d vs b t O P W D ps fl (A.setCell ⟨X2, 0, none⟩ v) ∧ (A.setCell ⟨X2, 0, none⟩ v).cell? ⟨X2, 0, none⟩ = some v :=
  ⟨⟨O8, P8, h8.store (a := ⟨X2, 0, none⟩) u.un (by show w.heap.size ≤ X2; omega) v, f8.store (a := ⟨X2, 0, none⟩) hX v⟩, (u.set 0 v (ys := #[v]) rfl).bk.cell 0⟩
theorem setlR_no (h : cntE D f ≠ 0) : setlR f n D ps = ⟨cntE D f, psyD D f, ps⟩ := if_pos h
theorem setlR_ok (h : cntE D f = 0) : setlR f n D ps = (endsR f n ps.length 0 (psyD D f) ps).next fun D1 ps1 => (mvsR f n (ents 0 ps1) 0 D1 ps1).next fun D2 ps2 => cutR f n D2 (ps2.take (ents 0 ps1).length) := if_neg (by rw [h]; simp)
theorem mvR_len {src tg : Nat} {tx : ByteArray} (hts : tg ≤ src) (hsl : src < ps.length) (hl : ps.length ≤ 128) (he : (mvR f n src tg tx D ps).e = 0) : (mvR f n src tg tx D ps).ps.length = ps.length := by
  unfold mvR at he ⊢
  by_cases h1 : src = tg
  · rw [if_pos h1]
  · rw [if_neg h1] at he ⊢
    by_cases hz : (lyR f n tg ⟨UInt8.ofNat (2 + src), tx⟩ D ps).e = 0
    · rw [next_ok hz] at he ⊢
      have e1 := lyR_ps hz
      have e2 : (lyR f n tg ⟨UInt8.ofNat (2 + src), tx⟩ D ps).ps.length = ps.length := by rw [e1]; exact setP_length (by omega)
      have e3 : (lyR f n tg ⟨UInt8.ofNat (2 + src), tx⟩ D ps).ps.getD tg pl0 = ⟨UInt8.ofNat (2 + src), tx⟩ := by rw [e1]; exact setP_at (by omega)
      have hm : (UInt8.ofNat (2 + src)).toNat = 2 + src := by rw [UInt8.toNat_ofNat']; omega
      generalize lyR f n tg ⟨UInt8.ofNat (2 + src), tx⟩ D ps = R at *
      unfold emR at he ⊢
      rw [e3] at he ⊢
      have hk : (UInt8.ofNat (2 + src)).toNat - 2 < R.ps.length := by omega
      have e4 := mkR_len (f := f) (n := n) (p := pl0) (D := R.D) hk
      by_cases h2 : (mkR f n ((UInt8.ofNat (2 + src)).toNat - 2) pl0 R.D R.ps).e = 0
      · rw [next_ok h2]
        rw [mkR_len (by omega), e4, e2]
      · rw [next_no h2] at he; exact absurd he h2
    · rw [next_no hz] at he; exact absurd he hz
/-- Under way in the second loop. -/
def SL2 (w : World) (d : Nat) (vs : Value → Bool → Array Value) (b o : Nat) (t : TypeId) (O P : Nat → Nat) (W : World) (f n q X1 X3 X : Nat) (g : Option Nat) (len : Nat) (fl : Bool) (xs : List Ent) (R2 : Rs) (pre : List Ent) (A : World) : Prop :=
  ∃ D' ps' O' P', SH w A d O' P' vs b t D' ps' fl ∧ Fp (fun k => O k + P k) W (fun k => O' k + P' k) A ∧ UB O' P' A X1 #[.pointer (some ⟨b, o, none⟩)] 30 ∧ UB O' P' A (X1 + 1) #[.int .i64 0] 31 ∧ UB O' P' A X3 #[.int .i64 (pre.length : Int)] 3 ∧ (UZ O' P' A X ∧ ∀ k, g = some k → UZ O' P' A k) ∧ (ps'.length = len ∧ Few D' q) ∧ ∃ rest, xs = pre ++ rest ∧ mvsR f n rest pre.length D' ps' = R2
theorem SL2.below {A B : World} {q X1 X3 X len : Nat} {g : Option Nat} {xs pre : List Ent} {R2 : Rs} (h : SL2 w d vs b o t O P W f n q X1 X3 X g len fl xs R2 pre A) (hb : Below A.heap.size A B) : SL2 w d vs b o t O P W f n q X1 X3 X g len fl xs R2 pre B := by
  obtain ⟨D', ps', O', P', h1, h2, h3, h4, h5, h6, h7⟩ := h
  exact ⟨D', ps', O', P', h1.below hb, h2.trans (Fp.of_below _ hb), h3.below hb, h4.below hb, h5.below hb, ⟨h6.1.below hb, fun k hk => (h6.2 k hk).below hb⟩, h7⟩
theorem SL2.put {A : World} {q X1 X3 X len l : Nat} {g : Option Nat} {xs pre : List Ent} {R2 : Rs} {x x' : Obj} (h : SL2 w d vs b o t O P W f n q X1 X3 X g len fl xs R2 pre A) (hw : w.heap.size ≤ W.heap.size) (hl0 : W.heap.size ≤ l) (hl : A.heap[l]? = some x) (hc : x.isCells = false) : SL2 w d vs b o t O P W f n q X1 X3 X g len fl xs R2 pre (A.putObj l x') := by
  obtain ⟨D', ps', O', P', h1, h2, h3, h4, h5, h6, h7⟩ := h
  exact ⟨D', ps', O', P', h1.put (by omega) hl hc, h2.put hl0 hl, h3.put hl hc, h4.put hl hc, h5.put hl hc, ⟨h6.1.put, fun k hk => (h6.2 k hk).put⟩, h7⟩
/-- Left by a return. -/
def SX2 (w : World) (d : Nat) (vs : Value → Bool → Array Value) (b : Nat) (t : TypeId) (O P : Nat → Nat) (W : World) (X2 : Nat) (fl : Bool) (R2 : Rs) (A : World) : Prop :=
  R2.e ≠ 0 ∧ Post10 w d vs b t O P W R2.D R2.ps fl A ∧ Bk A X2 #[.int .i64 R2.e] 31
theorem SX2.below {A B : World} {X2 : Nat} {R2 : Rs} (h : SX2 w d vs b t O P W X2 fl R2 A) (hb : Below A.heap.size A B) : SX2 w d vs b t O P W X2 fl R2 B := by
  obtain ⟨h1, ⟨O', P', h2, h3⟩, h4⟩ := h
  exact ⟨h1, ⟨O', P', h2.below hb, h3.trans (Fp.of_below _ hb)⟩, h4.below hb h4.lt⟩
theorem SX2.put {A : World} {X2 l : Nat} {R2 : Rs} {x x' : Obj} (h : SX2 w d vs b t O P W X2 fl R2 A) (hw : w.heap.size ≤ W.heap.size) (hl0 : W.heap.size ≤ l) (hl : A.heap[l]? = some x) (hc : x.isCells = false) : SX2 w d vs b t O P W X2 fl R2 (A.putObj l x') := by
  obtain ⟨h1, ⟨O', P', h2, h3⟩, h4⟩ := h
  exact ⟨h1, ⟨O', P', h2.put (by omega) hl hc, h3.put hl0 hl⟩, bk_put9 h4 hl hc⟩
/-- Under way in the first loop. -/
def SL1 (w : World) (d : Nat) (vs : Value → Bool → Array Value) (b o : Nat) (t : TypeId) (O P : Nat → Nat) (W : World) (f n q X1 len : Nat) (pv : Value) (fl : Bool) (R1 : Rs) (j : Nat) (A : World) : Prop :=
  ∃ D' ps' O' P', SH w A d O' P' vs b t D' ps' fl ∧ Fp (fun k => O k + P k) W (fun k => O' k + P' k) A ∧ UB O' P' A X1 #[.pointer (some ⟨b, o, none⟩)] 30 ∧ UB O' P' A (X1 + 1) #[.int .i64 0] 31 ∧ A.cell? ⟨b, o + 3, none⟩ = some pv ∧ ps'.length = len ∧ OkP n ps' ∧ Few D' q ∧ endsR f n (len - j) j D' ps' = R1
theorem endsR_small {at_ k : Nat} (h : (ps.getD at_ pl0).m < 2) : endsR f n (k + 1) at_ D ps = endsR f n k (at_ + 1) D ps := by
  show (if (ps.getD at_ pl0).m < 2 then _ else _) = _
  rw [if_pos h]
theorem endsR_move {at_ k : Nat} (h : ¬ (ps.getD at_ pl0).m < 2) : endsR f n (k + 1) at_ D ps = (emR f n at_ D ps).next fun D' ps' => endsR f n k (at_ + 1) D' ps' := by
  show (if (ps.getD at_ pl0).m < 2 then _ else _) = _
  rw [if_neg h]
set_option maxHeartbeats 8000000 in
theorem settle10 (hx : Box vs o d f n t) (h : SH w W d O P vs b t D ps fl) {q : Nat} (hf : Few D q) (hq : q + 4 ≤ 1000) (hl : ps.length ≤ 128) (hok : OkP n ps) :
    Calls Try.prog 59 #[.pointer (some ⟨b, o, none⟩)] W fun e w' => e = .returned (.int .i64 (setlR f n D ps).e) ∧ Post10 w d vs b t O P W (setlR f n D ps).D (setlR f n D ps).ps fl w' := by
  have hn1 := hx.n1
  obtain ⟨W1, hW1⟩ : ∃ W1, W1 = (W.alloc (.cells #[.pointer (some ⟨b, o, none⟩)] 30)).alloc (.cells #[.int .i64 0] 31) := ⟨_, rfl⟩
  have hb1 : Below W.heap.size W W1 := by rw [hW1]; exact ((Below.refl _ W).alloc (Nat.le_refl _) _).alloc (by simp) _
  have h1 := h.below hb1
  have u1 : UB O P W1 W.heap.size #[.pointer (some ⟨b, o, none⟩)] 30 := by rw [hW1]; exact ⟨(Bk.new _ _ _).alloc _, by rw [h.d1.new (Nat.le_refl _), h.pnew (Nat.le_refl _)]⟩
  have u2 : UB O P W1 (W.heap.size + 1) #[.int .i64 0] 31 := by rw [hW1]; exact ⟨Bk.new' _ _ _ (by simp), by rw [h.d1.new (by omega), h.pnew (by omega)]⟩
  have hT : S3 W.heap.size b o d f W1 := by
    have h3 := h1.c3s hx
    exact ⟨u1.bk.cell 0, h3.1, h3.2.1⟩
  have HSy : Hid (Calls Try.prog 76 #[.pointer (some ⟨d, 0, none⟩), .int .i64 (f : Int)] W1.drew fun e w' => e = .returned (.int .i64 (cntE D f)) ∧ ∃ O', SH w w' d O' P vs b t (psyD D f) ps fl ∧ Fp (fun k => O k + P k) W1 (fun k => O' k + P k) w') := by
    refine (d1Sync h1.drew.d1 hf (by omega) f).mono ?_
    rintro e w' ⟨rfl, O', h2, h3⟩
    obtain ⟨h4, h5⟩ := h1.drew.disk h2 h3
    exact ⟨rfl, O', h4, (Fp.of_below _ (Below.refl _ _).drew).trans h5⟩
  have HU : Hid (UB O P W1 W.heap.size #[.pointer (some ⟨b, o, none⟩)] 30 ∧ UB O P W1 (W.heap.size + 1) #[.int .i64 0] 31) := ⟨u1, u2⟩
  have HF1 : Hid (Fp (fun k => O k + P k) W (fun k => O k + P k) W1) := h.fp_below hb1
  have HX : Hid (Box vs o d f n t) := hx
  have HwW : Hid (w.heap.size ≤ W.heap.size) := h.d1.bel.size
  have lb := h1.blt
  have hz1 : W1.heap.size = W.heap.size + 2 := by rw [hW1]; simp
  have lx2 := u2.bk.lt
  by_cases hz : cntE D f = 0
  · rw [setlR_ok hz]
    rw [hz] at HSy
    obtain ⟨R1, hR1⟩ : ∃ R1, R1 = endsR f n ps.length 0 (psyD D f) ps := ⟨_, rfl⟩
    rw [← hR1]
    have HR1 : Hid (R1 = endsR f n ps.length 0 (psyD D f) ps) := hR1
    have hf1 := hf.psyD f
    have HOk : Hid (OkP n ps ∧ Few (psyD D f) q) := ⟨hok, hf1⟩
    generalize psyD D f = E1 at *
    generalize hK : (fun (D1 : Ds) (ps1 : List Pl) => (mvsR f n (ents 0 ps1) 0 D1 ps1).next fun D2 ps2 => cutR f n D2 (ps2.take (ents 0 ps1).length)) = K2
    have HK : Hid ((fun (D1 : Ds) (ps1 : List Pl) => (mvsR f n (ents 0 ps1) 0 D1 ps1).next fun D2 ps2 => cutR f n D2 (ps2.take (ents 0 ps1).length)) = K2) := hK
    clear hz hf hx h h1 hb1 u1 u2 hok hR1 hf1 hK
    refine (callsIn_wide (n := 6)).1 ?_
    refine callsIn_of_wp_marks Try.func59 rfl trivial ?_ rfl
    simp only [Try.ntmps59, List.size_toArray, List.length_cons, List.length_nil, Nat.reduceAdd, Nat.reduceSub, Array.replicate_succ, Array.replicate_zero, List.push_toArray, List.append_toArray, List.nil_append, List.cons_append]
    refine wpIn_wide.2 ?_
    go_upto_region 1 with fail
    rw [← hW1]
    clear hW1
    go_region_held3 (fun w' => w'.cell? ⟨W.heap.size, 0, none⟩ = some (.pointer (some ⟨b, o, none⟩)) ∧ w'.cell? ⟨b, o, none⟩ = some (.pointer (some ⟨d, 0, none⟩)) ∧ w'.cell? ⟨b, o + 1, none⟩ = some (.int .i64 (f : Int))) ((show S3 W.heap.size b o d f _; repeat (first | with_reducible exact hT | with_reducible refine S3.drew ?_))) ((go_at_call 76; refine Calls.mono HSy.out ?_; rintro e w8 ⟨rfl, O8, h8, f8⟩; have v1 := HU.out.1.call f8; have v2 := HU.out.2.call f8; have hT : S3 W.heap.size b o d f w8 := ⟨v1.bk.cell 0, (h8.c3s HX.out).1, (h8.c3s HX.out).2.1⟩; have H8 : Hid (SH w w8 d O8 P vs b t E1 ps fl ∧ UB O8 P w8 W.heap.size #[.pointer (some ⟨b, o, none⟩)] 30 ∧ UB O8 P w8 (W.heap.size + 1) #[.int .i64 0] 31 ∧ Fp (fun k => O k + P k) W (fun k => O8 k + P k) w8) := ⟨h8, v1, v2, HF1.out.trans f8⟩; clear h8 f8 v1 v2))
    obtain ⟨pv, hs8⟩ := H8.out.1.sb
    have c3 := hs8.c3 HX.out
    have lb8 := hs8.bk.lt
    obtain ⟨ad, cap, hpv, _⟩ := hs8.row.shape
    have HPv : Hid (pv = .slice ad ps.length cap) := hpv
    rw [hpv] at c3
    have x1 := hT.1
    have H0 : Hid (SL1 w d vs b o t O P W f n q W.heap.size ps.length pv fl R1 0 w8) := ⟨E1, ps, O8, P, H8.out.1, H8.out.2.2.2, H8.out.2.1, H8.out.2.2.1, hs8.c3 HX.out, rfl, HOk.out.1, HOk.out.2, HR1.out.symm⟩
    clear hs8 hpv lb lx2 hz1
    go_wp2_with fail
    go_loopw [28] (fun k wr => ∃ j : Nat, j ≤ ps.length ∧ k = .int .i64 (j : Int) ∧ Hid (SL1 w d vs b o t O P W f n q W.heap.size ps.length pv fl R1 j wr)) (fun k _ => ps.length - (intOf k).toNat)
    case atStart => exact ⟨0, by omega, rfl, H0⟩
    case round =>
      clear H0 c3 lb8 x1 H8 hT
      obtain ⟨j, hj, rfl, HJ⟩ := hrel
      obtain ⟨D1, ps1, O1, P1, h1, f1, u1, u2, hc, hlen, hok, hfew, hends⟩ := HJ.out
      have HI : Hid (SH w wr d O1 P1 vs b t D1 ps1 fl ∧ Fp (fun k => O k + P k) W (fun k => O1 k + P1 k) wr ∧ UB O1 P1 wr W.heap.size #[.pointer (some ⟨b, o, none⟩)] 30 ∧ UB O1 P1 wr (W.heap.size + 1) #[.int .i64 0] 31) := ⟨h1, f1, u1, u2⟩
      have x1 := u1.bk.cell 0
      have lx1 := u1.bk.lt
      simp only [List.getElem?_toArray, List.getElem?_cons_zero] at x1
      have HEn : Hid (endsR f n (ps.length - j) j D1 ps1 = R1) := hends
      have HOk1 : Hid (OkP n ps1 ∧ Few D1 q ∧ ps1.length = ps.length) := ⟨hok, hfew, hlen⟩
      have HC : Hid (wr.cell? ⟨b, o + 3, none⟩ = some pv) := hc
      by_cases hlt : j < ps.length
      · obtain ⟨pv1, hs1⟩ := h1.sb
        have e1 : pv1 = pv := by
          have h9 := hs1.c3 HX.out
          rw [hc] at h9
          simpa using h9.symm
        subst e1
        obtain ⟨g, cap1, e2, _, hg, k0, k1, kf⟩ := hs1.row.at j (by omega)
        have e3 := HPv.out
        rw [e2, hlen] at e3
        simp at e3
        obtain ⟨rfl, rfl⟩ := e3
        have hlti : (j : Int) < (ps.length : Int) := by omega
        have lb := hs1.bk.lt
        have hx1 : ∀ (u v : Value), Below wr.heap.size wr (wr.alloc (.cells #[u, v] 94)) := fun u v => (Below.refl _ wr).alloc (Nat.le_refl _) _
        have HX1 : Hid (∀ (u v : Value), Below wr.heap.size wr (wr.alloc (.cells #[u, v] 94))) := hx1
        have ek : ps.length - j = (ps.length - (j + 1)) + 1 := by omega
        by_cases hm2 : (ps1.getD j pl0).m < 2
        · have HE2 : Hid (endsR f n (ps.length - (j + 1)) (j + 1) D1 ps1 = R1) := by
            have := HEn.out
            rw [ek, endsR_small hm2] at this
            exact this
          have hm3 : ((ps1.getD j pl0).m.toNat : Int) < 2 := by have := UInt8.lt_iff_toNat_lt.1 hm2; have e : (2 : UInt8).toNat = 2 := rfl; omega
          clear hm2 hs1 h1 f1 u1 u2 hc hok hfew hends hx1 ek e2 kf
          generalize ((ps1.getD j pl0).m.toNat : Int) = mv at *
          generalize (ps1.getD j pl0).tx = tx at *
          go_wp2_with fail
          go_roundw
          case rel =>
            refine ⟨j + 1, by omega, by go_num, ?_⟩
            show SL1 w d vs b o t O P W f n q W.heap.size ps.length _ fl R1 (j + 1) _
            have hb := HX1.out (.int .u8 mv) (.string tx)
            exact ⟨D1, ps1, O1, P1, HI.out.1.below hb, HI.out.2.1.trans (Fp.of_below _ hb), HI.out.2.2.1.below hb, HI.out.2.2.2.below hb, (hb.cell (World.block_lt_of_cell? _ _ HC.out)).trans HC.out, HOk1.out.2.2, HOk1.out.1, HOk1.out.2.1, HE2.out⟩
          case measure => simp [intOf]; omega
        · have hm3 : ¬ ((ps1.getD j pl0).m.toNat : Int) < 2 := fun h9 => hm2 (UInt8.lt_iff_toNat_lt.2 (by have e : (2 : UInt8).toNat = 2 := rfl; omega))
          have hm4 : 2 ≤ (ps1.getD j pl0).m.toNat := by omega
          have HE2 : Hid ((emR f n j D1 ps1).next (fun D' ps' => endsR f n (ps.length - (j + 1)) (j + 1) D' ps') = R1) := by
            have := HEn.out
            rw [ek, endsR_move hm2] at this
            exact this
          have HEm : Hid (∀ u v, Calls Try.prog 77 #[.pointer (some ⟨b, o, none⟩), .int .i64 (j : Int)] (wr.alloc (.cells #[u, v] 94)) fun e w' => e = .returned (.int .i64 (emR f n j D1 ps1).e) ∧ Post10 w d vs b t O1 P1 wr (emR f n j D1 ps1).D (emR f n j D1 ps1).ps fl w' ∧ Cs b o wr w') := fun u v => by
            refine (endMove10 HX.out (h1.below (hx1 u v)) hfew (by omega) (by omega) j (by omega) hm4 (hok.src j (by omega) hm4)).mono ?_
            rintro e w' ⟨h7, h8, h9⟩
            exact ⟨h7, h8.pre (h1.fp_below (hx1 u v)), (h1.csb o (hx1 u v)).trans h9⟩
          have hokP := emR_okP (f := f) (n := n) (tg := j) (D := D1) (by omega) hok (by omega) hm4
          have hfe := emR_fe (f := f) (n := n) (tg := j) (ps := ps1) hfew
          have HN : Hid (((emR f n j D1 ps1).e = 0 → OkP n (emR f n j D1 ps1).ps ∧ (emR f n j D1 ps1).ps.length = ps1.length) ∧ FewE (emR f n j D1 ps1) q) := ⟨hokP, hfe⟩
          clear hm2 hs1 h1 f1 u1 u2 hc hok hfew hends hx1 ek e2 kf hokP hfe hm4
          generalize emR f n j D1 ps1 = M at *
          generalize ((ps1.getD j pl0).m.toNat : Int) = mv at *
          generalize (ps1.getD j pl0).tx = tx at *
          by_cases hme : M.e = 0
          · rw [hme] at HEm
            go_wp2_with (go_at_call 77; refine stop10 ?_)
            unfold Hold10
            refine Calls.mono (HEm.out _ _) ?_
            rintro e w9 ⟨rfl, h9, s9⟩
            have H9 : Hid (Post10 w d vs b t O1 P1 wr M.D M.ps fl w9 ∧ Cs b o wr w9) := ⟨h9, s9⟩
            clear h9 s9
            go_wp2_with fail
            go_roundw
            case rel =>
              refine ⟨j + 1, by omega, by go_num, ?_⟩
              show SL1 w d vs b o t O P W f n q W.heap.size ps.length _ fl R1 (j + 1) _
              obtain ⟨O9, P9, h9, f9⟩ := H9.out.1
              have := HE2.out
              rw [next_ok hme] at this
              exact ⟨M.D, M.ps, O9, P9, h9, HI.out.2.1.trans f9, HI.out.2.2.1.call f9, HI.out.2.2.2.call f9, Eq.trans H9.out.2 HC.out, by rw [(HN.out.1 hme).2]; exact HOk1.out.2.2, (HN.out.1 hme).1, HN.out.2.1 hme, this⟩
            case measure => simp [intOf]; omega
          · have eR : R1 = M := by
              have := HE2.out
              rw [next_no hme] at this
              exact this.symm
            have eN : R1.next K2 = M := by rw [eR]; exact next_no hme
            have HEN : Hid (R1.next K2 = M) := eN
            have hne : (M.e != 0) = true := by rw [bne_iff_ne]; exact hme
            clear eN eR
            go_wp2_with (go_at_call 77; refine Calls.mono (HEm.out _ _) ?_; rintro e w9 ⟨rfl, ⟨O9, P9, h9, f9⟩, s9⟩; have v2 := HI.out.2.2.2.call f9; have x2 := v2.bk.cell 0; have xf2 := v2.bk.frozen 0; have xl2 := v2.bk.lt; have H9 : Hid (SH w w9 d O9 P9 vs b t M.D M.ps fl ∧ UB O9 P9 w9 (W.heap.size + 1) #[.int .i64 0] 31 ∧ Fp (fun k => O k + P k) W (fun k => O9 k + P9 k) w9) := ⟨h9, v2, HI.out.2.1.trans f9⟩; clear h9 f9 s9 v2; simp only [List.getElem?_toArray, List.getElem?_cons_zero] at x2)
            rw [HEN.out]
            obtain ⟨he, hc9⟩ := settle_end (v := .int .i64 M.e) H9.out.1 H9.out.2.1 H9.out.2.2 (by omega) HwW.out
            refine ⟨.int .i64 M.e, ?_, rfl, he⟩
            simp [results, Try.f59, go_sem, hc9]
      · obtain rfl : j = ps.length := by omega
        have hR : R1 = ⟨0, D1, ps1⟩ := by rw [← hends, Nat.sub_self]; rfl
        have hN : R1.next K2 = (mvsR f n (ents 0 ps1) 0 D1 ps1).next fun D2 ps2 => cutR f n D2 (ps2.take (ents 0 ps1).length) := by rw [hR, ← HK.out]; exact next_ok rfl
        have HN : Hid (R1.next K2 = (mvsR f n (ents 0 ps1) 0 D1 ps1).next fun D2 ps2 => cutR f n D2 (ps2.take (ents 0 ps1).length)) := hN
        have HA : Hid (∀ A, Below wr.heap.size wr A → Calls Try.prog 66 #[.pointer (some ⟨b, o, none⟩)] A (AllQ A ps1)) := fun A hA => by
          obtain ⟨pv9, hs9⟩ := (h1.below hA).sb
          exact all10 HX.out hs9 (by omega)
        have hb3 : Below wr.heap.size wr (wr.alloc (.cells #[.int .i64 0] 3)) := (Below.refl _ wr).alloc (Nat.le_refl _) _
        have HB3 : Hid (Below wr.heap.size wr (wr.alloc (.cells #[.int .i64 0] 3))) := hb3
        have HU3 : Hid (UB O1 P1 (wr.alloc (.cells #[.int .i64 0] 3)) wr.heap.size #[.int .i64 0] 3) := ⟨Bk.new _ _ _, by rw [h1.d1.new (Nat.le_refl _), h1.pnew (Nat.le_refl _)]⟩
        have lx2 := u2.bk.lt
        clear h1 f1 u1 u2 hc hok hfew hends hR hN hb3
        go_wp2_with (go_at_call 66; refine Calls.mono (HA.out _ HB3.out) ?_; rintro e w9 ⟨X, v9, rfl, bX, hrow, hXge, hb9⟩)
        refine (wpIn_wide (n := 6)).1 ?_
        have HB9 : Hid (Below wr.heap.size wr w9) := HB3.out.trans (hb9.mono HB3.out.size)
        have hz3 : (wr.alloc (.cells #[.int .i64 0] 3)).heap.size = wr.heap.size + 1 := by simp
        rw [hz3] at hrow hXge
        have hXne : wr.heap.size ≠ X := by omega
        have hgne : ∀ k, v9.ownBlock = some k → k ≠ wr.heap.size := fun k hk e => by have := (hrow.ge hk).1; omega
        have HWr : Hid (W.heap.size ≤ wr.heap.size) := HI.out.2.1.size
        obtain ⟨R2, hR2⟩ : ∃ R2, R2 = mvsR f n (ents 0 ps1) 0 D1 ps1 := ⟨_, rfl⟩
        have HR2 : Hid (R2 = mvsR f n (ents 0 ps1) 0 D1 ps1) := hR2
        have h0 : SL2 w d vs b o t O P W f n q W.heap.size wr.heap.size X v9.ownBlock ps.length fl (ents 0 ps1) R2 [] w9 := by
          have hbb := HB9.out
          refine ⟨D1, ps1, O1, P1, HI.out.1.below hbb, HI.out.2.1.trans (Fp.of_below _ hbb), HI.out.2.2.1.below hbb, HI.out.2.2.2.below hbb, HU3.out.below hb9, ⟨⟨bX.lt, ?_⟩, fun k hk => ⟨(hrow.ge hk).2, ?_⟩⟩, ⟨HOk1.out.2.2, HOk1.out.2.1⟩, ents 0 ps1, rfl, hR2.symm⟩
          · rw [HI.out.1.d1.new (by omega), HI.out.1.pnew (by omega)]
          · have := (hrow.ge hk).1
            rw [HI.out.1.d1.new (by omega), HI.out.1.pnew (by omega)]
        have HNe : Hid (wr.heap.size ≠ X ∧ ∀ k, v9.ownBlock = some k → k ≠ wr.heap.size) := ⟨hXne, hgne⟩
        have hW9 : W.heap.size ≤ w9.heap.size := by have := HB9.out.size; have := HWr.out; omega
        have HW9 : Hid (W.heap.size ≤ w9.heap.size) := hW9
        refine wpIn_rangeP rfl (by omega) (gf := 86) (lb := #[.pointer (some ⟨X, 0, none⟩)]) rfl trivial (enters_of Try.func86 rfl rfl)
          (all_seq _ X v9 ps1 _ (by omega) (by have := HOk1.out.2.2; omega) w9 bX hrow) KpK.trans (KpK.put bX.lt (fun k hk => (hrow.ge hk).2)) (Below.refl _ _) (fun _ => rfl)
          (fun pre A => SL2 w d vs b o t O P W f n q W.heap.size wr.heap.size X v9.ownBlock ps.length fl (ents 0 ps1) R2 pre A) (fun c pre A => c = .ret ∧ SX2 w d vs b t O P W (W.heap.size + 1) fl R2 A) (fun s A B h hb => h.below hb) (fun c s A B h hb => ⟨h.1, h.2.below hb⟩) (fun s A l o o' hl h hc hi => hi.put HwW.out (Nat.le_trans HW9.out hl) h hc) (fun c s A l o o' hl h hc hi => ⟨hi.1, hi.2.put HwW.out (Nat.le_trans HW9.out hl) h hc⟩) h0
          (fun pre x a' A => AGd ps1 pre x ∧ a' = { tmps := #[.pointer (some ⟨b, o, none⟩), .pointer (some ⟨W.heap.size, 0, none⟩), .pointer (some ⟨W.heap.size + 1, 0, none⟩), .int .i64 0, u4, u5, u6, .pointer (some ⟨wr.heap.size, 0, none⟩), .int .i64 (x.1 : Int), .string x.2, undef, .pointer (some ⟨b, o, none⟩), .pointer (some ⟨b, o, none⟩), .pointer (some ⟨b, o, none⟩), .pointer (some ⟨d, 0, none⟩), .pointer (some ⟨b, o, none⟩), .pointer (some ⟨b, o, none⟩), .pointer (some ⟨b, o + 1, none⟩), .int .i64 (f : Int), .int .i64 0, .int .i64 0, .bool false, undef, .pointer (some ⟨b, o, none⟩), .pointer (some ⟨b, o, none⟩), .pointer (some ⟨b, o + 3, none⟩), .slice ad ps.length cap, .int .i64 (ps.length : Int), .int .i64 (ps.length : Int), .bool false, u30, u31, u32, u33, u34, u35, u36, u37, u38, u39, u40, u41, u42, .pointer (some ⟨b, o, none⟩), .func (.func 86) #[] #[.pointer (some ⟨X, 0, none⟩)], .int .i64 (x.1 : Int), .string x.2, undef, undef, undef, undef, undef, undef, undef, undef, undef, undef, undef, undef, undef, undef, undef, undef, undef, undef, undef, undef, undef], defers := [] }) (fun pre x a' A l o o' hl h hc hx => hx) ?assign ?body ?done ?stop
        case assign =>
          intro l pre x A0 A K hi0 hbA hgd hi hK
          simp only [aenc]
          clear x1 lx1 bX hrow h0 hR2
          gi_wp2
          exact hK _ _ (KeepsFrom.refl _ _) (KpK.refl _ _ _) hi ⟨hgd, rfl⟩
        case body =>
          rintro l pre x a' A hi ⟨hgd, rfl⟩
          obtain ⟨D', ps', O', P', h2, f2, v1, v2, v3, uz, ⟨hlen2, hfew2⟩, rest, hxs, hmv⟩ := hi
          obtain ⟨hg1, hg2, hg3, hg4⟩ := hgd.facts
          obtain ⟨r, hr⟩ := hgd
          obtain rfl : rest = x :: r := List.append_cancel_left (hxs.symm.trans hr)
          have HMv0 : Hid ((mvR f n x.1 pre.length x.2 D' ps').next (fun D3 ps3 => mvsR f n r (pre.length + 1) D3 ps3) = R2) := hmv
          have HI2 : Hid (SH w A d O' P' vs b t D' ps' fl ∧ Fp (fun k => O k + P k) W (fun k => O' k + P' k) A ∧ UB O' P' A W.heap.size #[.pointer (some ⟨b, o, none⟩)] 30 ∧ UB O' P' A (W.heap.size + 1) #[.int .i64 0] 31 ∧ UB O' P' A wr.heap.size #[.int .i64 (pre.length : Int)] 3 ∧ (UZ O' P' A X ∧ ∀ k, v9.ownBlock = some k → UZ O' P' A k)) := ⟨h2, f2, v1, v2, v3, uz⟩
          have hsl : x.1 < ps'.length := by have := HOk1.out.2.2; omega
          have HL : Hid ((mvR f n x.1 pre.length x.2 D' ps').e = 0 → (mvR f n x.1 pre.length x.2 D' ps').ps.length = ps'.length) := fun h9 => mvR_len hg1 hsl (by omega) h9
          have HFe : Hid (FewE (mvR f n x.1 pre.length x.2 D' ps') q) := mvR_fe hfew2
          have HMv : Hid (Calls Try.prog 78 #[.pointer (some ⟨b, o, none⟩), .int .i64 (x.1 : Int), .int .i64 (pre.length : Int), .string x.2] A fun e w' => e = .returned (.int .i64 (mvR f n x.1 pre.length x.2 D' ps').e) ∧ Post10 w d vs b t O' P' A (mvR f n x.1 pre.length x.2 D' ps').D (mvR f n x.1 pre.length x.2 D' ps').ps fl w' ∧ Cs b o A w') :=
            move10 HX.out h2 hfew2 (by omega) (by omega) x.1 pre.length hg1 hsl x.2 (by rw [hg3]; exact HOk1.out.1.fit x.1 hg2)
          have HRr : Hid (ents 0 ps1 = pre ++ x :: r ∧ ps'.length = ps.length) := ⟨hr, hlen2⟩
          have hpl : pre.length ≤ 1000 := by have := HOk1.out.2.2; omega
          have y1 := v1.bk.cell 0
          have y2 := v2.bk.cell 0
          have y3 := v3.bk.cell 0
          have yf2 := v2.bk.frozen 0
          have yf3 := v3.bk.frozen 0
          have yl2 := v2.bk.lt
          have yl3 := v3.bk.lt
          simp only [List.getElem?_toArray, List.getElem?_cons_zero] at y1 y2 y3
          clear x1 lx1 bX hrow h0 hR2 h2 f2 v1 v2 v3 uz hlen2 hfew2 hxs hmv hg1 hg2 hg3 hg4 hr hsl
          generalize mvR f n x.1 pre.length x.2 D' ps' = M at *
          have HPl : Hid ((pre ++ [x]).length = pre.length + 1) := by show _ = _; simp
          by_cases hme : M.e = 0
          · rw [hme] at HMv
            gi_wp2_with (refine ⟨trivial, ?_⟩; gi_at_call 78; refine (callsIn_wide.2 (Calls.mono HMv.out fun _ _ h => h)).mono ?_; rintro e w10 ⟨rfl, ⟨O10, P10, h10, f10⟩, s10⟩; have z3 := (HI2.out.2.2.2.2.1.call f10).bk.cell 0; have zf3 := (HI2.out.2.2.2.2.1.call f10).bk.frozen 0; have zl3 := (HI2.out.2.2.2.2.1.call f10).bk.lt; simp only [List.getElem?_toArray, List.getElem?_cons_zero] at z3; have H10 : Hid (SH w w10 d O10 P10 vs b t M.D M.ps fl ∧ Fp (fun k => O' k + P' k) A (fun k => O10 k + P10 k) w10) := ⟨h10, f10⟩; clear h10 f10 s10)
            have f10 := H10.out.2
            refine ⟨(f10.keepsFrom _).trans ((KeepsOthers.setCell _ _ _).from _), ⟨(Below.heap_setCell w10 _ _ X (fun e => HNe.out.1 e.symm)).trans (f10.keep X HI2.out.2.2.2.2.2.1.1 HI2.out.2.2.2.2.2.1.2), fun k hk => (Below.heap_setCell w10 _ _ k (HNe.out.2 k hk)).trans (f10.keep k (HI2.out.2.2.2.2.2.2 k hk).1 (HI2.out.2.2.2.2.2.2 k hk).2)⟩, ?_⟩
            show SL2 w d vs b o t O P W f n q W.heap.size wr.heap.size X v9.ownBlock ps.length fl (ents 0 ps1) R2 (pre ++ [x]) _
            have hmv := HMv0.out
            rw [next_ok hme] at hmv
            have c3 := HI2.out.2.2.2.2.1.call f10
            have hWr := HWr.out
            have hwW := HwW.out
            refine ⟨M.D, M.ps, O10, P10, H10.out.1.store (a := ⟨wr.heap.size, 0, none⟩) c3.un (by show w.heap.size ≤ wr.heap.size; omega) _, (HI2.out.2.1.trans f10).store (a := ⟨wr.heap.size, 0, none⟩) hWr _, (HI2.out.2.2.1.call f10).other (a := ⟨wr.heap.size, 0, none⟩) (by show W.heap.size ≠ wr.heap.size; have := HI.out.2.2.1.bk.lt; omega) _, (HI2.out.2.2.2.1.call f10).other (a := ⟨wr.heap.size, 0, none⟩) (by show W.heap.size + 1 ≠ wr.heap.size; have := HI.out.2.2.2.bk.lt; omega) _, ?_, ⟨(HI2.out.2.2.2.2.2.1.call f10).set _ _, fun k hk => ((HI2.out.2.2.2.2.2.2 k hk).call f10).set _ _⟩, ⟨by rw [HL.out hme]; exact HRr.out.2, HFe.out.1 hme⟩, r, by rw [HRr.out.1]; simp, by rw [HPl.out]; exact hmv⟩
            rw [HPl.out]
            exact c3.set 0 _ (by simp)
          · have hmv := HMv0.out
            rw [next_no hme] at hmv
            have hne : (M.e != 0) = true := by rw [bne_iff_ne]; exact hme
            have HM2 : Hid (M = R2) := hmv
            clear hmv
            gi_wp2_with (refine ⟨trivial, ?_⟩; gi_at_call 78; refine (callsIn_wide.2 (Calls.mono HMv.out fun _ _ h => h)).mono ?_; rintro e w10 ⟨rfl, ⟨O10, P10, h10, f10⟩, s10⟩; have z2 := (HI2.out.2.2.2.1.call f10).bk.cell 0; have zf2 := (HI2.out.2.2.2.1.call f10).bk.frozen 0; have zl2 := (HI2.out.2.2.2.1.call f10).bk.lt; simp only [List.getElem?_toArray, List.getElem?_cons_zero] at z2; have H10 : Hid (SH w w10 d O10 P10 vs b t M.D M.ps fl ∧ Fp (fun k => O' k + P' k) A (fun k => O10 k + P10 k) w10) := ⟨h10, f10⟩; clear h10 f10 s10)
            have f10 := H10.out.2
            have c2 := HI2.out.2.2.2.1.call f10
            obtain ⟨he, _⟩ := settle_end (v := .int .i64 M.e) H10.out.1 c2 (HI2.out.2.1.trans f10) (by omega) HwW.out
            refine ⟨(f10.keepsFrom _).trans ((KeepsOthers.setCell _ _ _).from _), rfl, ?_⟩
            rw [← HM2.out]
            exact ⟨hme, he, (c2.set 0 _ rfl).bk⟩
        case done =>
          rintro D9 xs A hD hxs hi hK
          subst hxs
          obtain ⟨D', ps', O', P', h2, f2, v1, v2, v3, uz, ⟨hlen2, hfew2⟩, rest, hxs, hmv⟩ := hi
          obtain rfl : rest = [] := by have := congrArg List.length hxs; simp at this; exact this
          have hR : R2 = ⟨0, D', ps'⟩ := hmv.symm
          have HN2 : Hid (R1.next K2 = cutR f n D' (ps'.take (ents 0 ps1).length)) := by show _ = _; rw [HN.out, ← HR2.out, hR]; exact next_ok rfl
          have hL : (ents 0 ps1).length ≤ ps'.length := by have := ents_le 0 ps1; have := HOk1.out.2.2; omega
          obtain ⟨pv3, hs3⟩ := h2.sb
          obtain ⟨ad3, cap3, rfl, hcap3⟩ := hs3.row.shape
          have z3 := hs3.c3 HX.out
          have zl := hs3.bk.lt
          have zf := hs3.bk.frozen (o + 3)
          have y1 := v1.bk.cell 0
          have y3 := v3.bk.cell 0
          simp only [List.getElem?_toArray, List.getElem?_cons_zero] at y1 y3
          have hLc : (ents 0 ps1).length ≤ cap3 := Nat.le_trans hL hcap3
          have HP : Hid (Post10 w d vs b t O' P' A D' (ps'.take (ents 0 ps1).length) fl (A.setCell ⟨b, o + 3, none⟩ (.slice ad3 (ents 0 ps1).length cap3)).drew) := by
            have hr := hs3.row.take (ents 0 ps1).length hL
            have hp := h2.drew.rowed (pv := .slice ad3 ps'.length cap3) (W' := A.drew.setCell ⟨b, o + 3, none⟩ (.slice ad3 (ents 0 ps1).length cap3)) (v' := .slice ad3 (ents 0 ps1).length cap3) (ps' := ps'.take (ents 0 ps1).length) (fl' := fl) (hs3.same fun k _ => rfl) ((hs3.same (W' := A.drew) fun k _ => rfl).bk.set _ _ (HX.out.s3 _ _ _)) (hr.same fun k e => by
              refine (Below.heap_setCell A.drew _ _ k ?_)
              exact hs3.apart HX.out.ty (by cases ad3 with
                | none => simp [Value.ownBlock] at e
                | some a => simpa [Value.ownBlock] using e)) HX.out.ty (.inl (by cases ad3 <;> rfl)) (fun k hk h7 h8 => Below.heap_setCell A.drew _ _ k h7) rfl rfl rfl (by simp)
            exact hp.pre (Fp.of_below _ (Below.refl _ _).drew)
          have HI2 : Hid (Fp (fun k => O k + P k) W (fun k => O' k + P' k) A ∧ UB O' P' A W.heap.size #[.pointer (some ⟨b, o, none⟩)] 30 ∧ UB O' P' A (W.heap.size + 1) #[.int .i64 0] 31 ∧ Few D' q ∧ ps'.length = ps.length) := ⟨f2, v1, v2, hfew2, hlen2⟩
          have HbD : Hid (b ≠ D9) := fun e => by rw [← e, show A.heap[b]? = _ from hs3.bk] at hK; simp at hK
          clear h2 f2 v1 v2 v3 uz hlen2 hfew2 hxs hmv hR hs3 x1 lx1 bX hrow h0 hR2
          go_wp2_with fail
          go_region
          obtain ⟨O3, P3, h3, f3⟩ := HP.out
          have w1 := HI2.out.2.1.call f3
          have w2 := HI2.out.2.2.1.call f3
          have q1 := w1.bk.cell 0
          simp only [List.getElem?_toArray, List.getElem?_cons_zero] at q1
          have HCt : Hid (Calls Try.prog 79 #[.pointer (some ⟨b, o, none⟩)] (A.setCell ⟨b, o + 3, none⟩ (.slice ad3 (ents 0 ps1).length cap3)).drew fun e w' => e = .returned (.int .i64 (cutR f n D' (ps'.take (ents 0 ps1).length)).e) ∧ Post10 w d vs b t O3 P3 (A.setCell ⟨b, o + 3, none⟩ (.slice ad3 (ents 0 ps1).length cap3)).drew (cutR f n D' (ps'.take (ents 0 ps1).length)).D (cutR f n D' (ps'.take (ents 0 ps1).length)).ps fl w') := cut10 HX.out h3 HI2.out.2.2.2.1 (by omega) (by rw [List.length_take]; have := HI2.out.2.2.2.2; omega)
          have HI3 : Hid (Fp (fun k => O k + P k) W (fun k => O3 k + P3 k) (A.setCell ⟨b, o + 3, none⟩ (.slice ad3 (ents 0 ps1).length cap3)).drew ∧ UB O3 P3 (A.setCell ⟨b, o + 3, none⟩ (.slice ad3 (ents 0 ps1).length cap3)).drew (W.heap.size + 1) #[.int .i64 0] 31) := ⟨HI2.out.1.trans f3, w2⟩
          have hKd : (A.setCell ⟨b, o + 3, none⟩ (.slice ad3 (ents 0 ps1).length cap3)).drew.heap[D9]? = some (.deferred (some [])) := by
            exact (Below.heap_setCell A.drew ⟨b, o + 3, none⟩ _ D9 (fun e => HbD.out e.symm)).trans hK
          have hl9 : W.heap.size ≤ D9 := Nat.le_trans HW9.out hD
          clear h3 f3 w1 w2 z3 zl zf y1 y3
          generalize (A.setCell ⟨b, o + 3, none⟩ (.slice ad3 (ents 0 ps1).length cap3)).drew = A3 at *
          generalize cutR f n D' (ps'.take (ents 0 ps1).length) = R9 at *
          go_wp2_with (go_at_call 79; refine Calls.mono HCt.out ?_; rintro e w10 ⟨rfl, O10, P10, h10, f10⟩; have z2 := (HI3.out.2.call f10).bk.cell 0; have zf2 := (HI3.out.2.call f10).bk.frozen 0; have zl2 := (HI3.out.2.call f10).bk.lt; simp only [List.getElem?_toArray, List.getElem?_cons_zero] at z2; have H10 : Hid (SH w w10 d O10 P10 vs b t R9.D R9.ps fl ∧ Fp (fun k => O3 k + P3 k) A3 (fun k => O10 k + P10 k) w10) := ⟨h10, f10⟩; clear h10 f10)
          obtain ⟨⟨O9, P9, h9, f9⟩, hc9⟩ := settle_end (v := .int .i64 R9.e) H10.out.1 (HI3.out.2.call H10.out.2) (HI3.out.1.trans H10.out.2) (by omega) HwW.out
          have hX2D : D9 ≠ W.heap.size + 1 := by have h7 := HI.out.2.2.2.bk.lt; have h8 := HB9.out.size; omega
          have hK10 : (w10.setCell ⟨W.heap.size + 1, 0, none⟩ (.int .i64 R9.e)).heap[D9]? = some (.deferred (some [])) := (Below.heap_setCell w10 _ _ D9 hX2D).trans (H10.out.2.kf D9 _ hKd rfl)
          have hbk9 : Bk (w10.setCell ⟨W.heap.size + 1, 0, none⟩ (.int .i64 R9.e)) (W.heap.size + 1) #[.int .i64 R9.e] 31 := ((HI3.out.2.call H10.out.2).set 0 _ rfl).bk
          have hc10 : ∀ x', ((w10.setCell ⟨W.heap.size + 1, 0, none⟩ (.int .i64 R9.e)).putObj D9 x').cell? ⟨W.heap.size + 1, 0, none⟩ = some (.int .i64 R9.e) := fun x' => (bk_put9 (x' := x') hbk9 hK10 rfl).cell 0
          refine ⟨by simp, .inl ⟨_, _, rfl, run_takeDeferred hK10, ?_⟩⟩
          rw [HN2.out]
          refine ⟨.int .i64 R9.e, ?_, rfl, ⟨O9, P9, h9.put (by have := HwW.out; omega) hK10 rfl, f9.put hl9 hK10⟩⟩
          simp [results, Try.f59, go_sem, hc10]
        case stop =>
          rintro D9 c pre A hD hS ⟨rfl, hi⟩ hK
          obtain ⟨hne, he, hbk⟩ := hi
          have HN2 : Hid (R1.next K2 = R2) := by show _ = _; rw [HN.out, ← HR2.out]; exact next_no hne
          have HE2 : Hid (Post10 w d vs b t O P W R2.D R2.ps fl A ∧ Bk A (W.heap.size + 1) #[.int .i64 R2.e] 31) := ⟨he, hbk⟩
          clear hne he hbk x1 lx1 bX hrow h0 hR2
          gi_wp2
          have hl9 : W.heap.size ≤ D9 := Nat.le_trans HW9.out hD
          obtain ⟨O9, P9, h9, f9⟩ := HE2.out.1
          have hc9 : ∀ x', (A.putObj D9 x').cell? ⟨W.heap.size + 1, 0, none⟩ = some (.int .i64 R2.e) := fun x' => (bk_put9 (x' := x') HE2.out.2 hK rfl).cell 0
          refine ⟨by simp, .inl ⟨_, _, rfl, run_takeDeferred hK, ?_⟩⟩
          rw [HN2.out]
          refine ⟨.int .i64 R2.e, ?_, rfl, ⟨O9, P9, h9.put (by have := HwW.out; omega) hK rfl, f9.put hl9 hK⟩⟩
          simp [results, Try.f59, go_sem, hc9]
  · rw [setlR_no hz]
    show Calls Try.prog 59 #[.pointer (some ⟨b, o, none⟩)] W fun e w' => e = .returned (.int .i64 (cntE D f)) ∧ Post10 w d vs b t O P W (psyD D f) ps fl w'
    generalize psyD D f = D1 at *
    generalize cntE D f = ev at *
    have hne : (ev != 0) = true := by rw [bne_iff_ne]; exact hz
    clear hz hf hx h h1 hb1 u1 u2 hok
    refine (callsIn_wide (n := 6)).1 ?_
    refine callsIn_of_wp_marks Try.func59 rfl trivial ?_ rfl
    simp only [Try.ntmps59, List.size_toArray, List.length_cons, List.length_nil, Nat.reduceAdd, Nat.reduceSub, Array.replicate_succ, Array.replicate_zero, List.push_toArray, List.append_toArray, List.nil_append, List.cons_append]
    refine wpIn_wide.2 ?_
    go_upto_region 1 with fail
    rw [← hW1]
    clear hW1
    go_region_held3 (fun w' => w'.cell? ⟨W.heap.size, 0, none⟩ = some (.pointer (some ⟨b, o, none⟩)) ∧ w'.cell? ⟨b, o, none⟩ = some (.pointer (some ⟨d, 0, none⟩)) ∧ w'.cell? ⟨b, o + 1, none⟩ = some (.int .i64 (f : Int))) ((show S3 W.heap.size b o d f _; repeat (first | with_reducible exact hT | with_reducible refine S3.drew ?_))) ((go_at_call 76; refine Calls.mono HSy.out ?_; rintro e w8 ⟨rfl, O8, h8, f8⟩; have v1 := HU.out.1.call f8; have v2 := HU.out.2.call f8; have hT : S3 W.heap.size b o d f w8 := ⟨v1.bk.cell 0, (h8.c3s HX.out).1, (h8.c3s HX.out).2.1⟩; have x2 := v2.bk.cell 0; have xf2 := v2.bk.frozen 0; have xl2 := v2.bk.lt; have H8 : Hid (SH w w8 d O8 P vs b t D1 ps fl ∧ UB O8 P w8 (W.heap.size + 1) #[.int .i64 0] 31 ∧ Fp (fun k => O k + P k) W (fun k => O8 k + P k) w8) := ⟨h8, v2, HF1.out.trans f8⟩; clear h8 f8 v1 v2))
    simp only [List.getElem?_toArray, List.getElem?_cons_zero] at x2
    go_wp2_with fail
    obtain ⟨he, hc⟩ := settle_end (v := .int .i64 ev) H8.out.1 H8.out.2.1 H8.out.2.2 (by omega) HwW.out
    refine ⟨.int .i64 ev, ?_, rfl, he⟩
    simp [results, Try.f59, go_sem, hc]
end
end Go.Proofs.Ytjbhegakgdcldaa

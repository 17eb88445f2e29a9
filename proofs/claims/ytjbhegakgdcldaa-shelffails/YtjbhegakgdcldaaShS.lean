import Derived.Test.YtjbhegakgdcldaaJ10
import Derived.Test.YtjbhegakgdcldaaShN
import Derived.Deep.MidRow
set_option linter.unusedSimpArgs false
set_option linter.unusedVariables false
set_option maxRecDepth 100000
namespace Go.Proofs.Ytjbhegakgdcldaa
open Go.RowKit Go.Shelf
attribute [local go_sem] Oper.semAt_some

/-! load. -/
section
variable {w W W' : World} {O P : Nat → Nat} {vs : Value → Bool → Array Value} {b o d f n : Nat} {t : TypeId} {ps ps' : List Pl} {fl fl' : Bool} {D : Ds} {pv v' : Value}
theorem S3.below {X1 b o d f : Nat} {A B : World} (h : S3 X1 b o d f A) (hb : Below A.heap.size A B) : S3 X1 b o d f B := ⟨(hb.cell (World.block_lt_of_cell? _ _ h.1)).trans h.1, (hb.cell (World.block_lt_of_cell? _ _ h.2.1)).trans h.2.1, (hb.cell (World.block_lt_of_cell? _ _ h.2.2)).trans h.2.2⟩
theorem load_end {O8 P8 : Nat → Nat} {A : World} {X2 : Nat} {x v : Value} {t' : TypeId} (h8 : SH w A d O8 P8 vs b t D ps fl) (u : UB O8 P8 A X2 #[x] t') (f8 : Fp (fun k => O k + P k) W (fun k => O8 k + P8 k) A) (hX : W.heap.size ≤ X2) (hw : w.heap.size ≤ W.heap.size) :
    Post10 w d vs b t O P W D ps fl (A.setCell ⟨X2, 0, none⟩ v) ∧ (A.setCell ⟨X2, 0, none⟩ v).cell? ⟨X2, 0, none⟩ = some v := settle_end h8 u f8 hX hw
def LodQ (w : World) (d : Nat) (vs : Value → Bool → Array Value) (b : Nat) (t : TypeId) (O P : Nat → Nat) (W : World) (D : Ds) (f n : Nat) (fl : Bool) (e : Ending) (w' : World) : Prop :=
  e = .returned (.int .i64 (lodE D f n)) ∧ ∃ ps', (lodE D f n = 0 → ps' = lodP D f n) ∧ Post10 w d vs b t O P W D ps' fl w'
theorem lodE_off (h : fndE D.off f ≠ 0) : lodE D f n = fndE D.off f := if_pos h
theorem lodE_long (h : fndE D.off f = 0) (h2 : 128 * n < (D.now f).length) : lodE D f n = 1 := by unfold lodE; rw [if_neg (by rw [h]; simp), if_pos h2]
theorem lodE_none (h : fndE D.off f = 0) (h2 : ¬ 128 * n < (D.now f).length) (h3 : lods n (chk n (D.now f)) = none) : lodE D f n = 1 := by unfold lodE; rw [if_neg (by rw [h]; simp), if_neg h2, h3]
theorem lodE_some (h : fndE D.off f = 0) (h2 : ¬ 128 * n < (D.now f).length) {ps : List Pl} (h3 : lods n (chk n (D.now f)) = some ps) : lodE D f n = if fits ps = true then 0 else 1 := by unfold lodE; rw [if_neg (by rw [h]; simp), if_neg h2, h3]
set_option maxHeartbeats 8000000 in
theorem load10 (hx : Box vs o d f n t) (h : SH w W d O P vs b t D [] fl) {q : Nat} (hf : Few D q) :
    Calls Try.prog 58 #[.pointer (some ⟨b, o, none⟩)] W (LodQ w d vs b t O P W D f n fl) := by
  have hn1 := hx.n1
  have hf8 := hx.hf
  obtain ⟨W1, hW1⟩ : ∃ W1, W1 = (W.alloc (.cells #[.pointer (some ⟨b, o, none⟩)] 30)).alloc (.cells #[.int .i64 0] 31) := ⟨_, rfl⟩
  have hb1 : Below W.heap.size W W1 := by rw [hW1]; exact ((Below.refl _ W).alloc (Nat.le_refl _) _).alloc (by simp) _
  have h1 := h.below hb1
  have u1 : UB O P W1 W.heap.size #[.pointer (some ⟨b, o, none⟩)] 30 := by rw [hW1]; exact ⟨(Bk.new _ _ _).alloc _, by rw [h.d1.new (Nat.le_refl _), h.pnew (Nat.le_refl _)]⟩
  have u2 : UB O P W1 (W.heap.size + 1) #[.int .i64 0] 31 := by rw [hW1]; exact ⟨Bk.new' _ _ _ (by simp), by rw [h.d1.new (by omega), h.pnew (by omega)]⟩
  have hT : S3 W.heap.size b o d f W1 := by
    have h3 := h1.c3s hx
    exact ⟨u1.bk.cell 0, h3.1, h3.2.1⟩
  have HSz : Hid (Calls Try.prog 28 #[.pointer (some ⟨d, 0, none⟩), .int .i64 (f : Int)] W1.drew fun e w' => e = .returned (.tuple #[.int .i64 (sizeV D f), .int .i64 (fndE D.off f)]) ∧ w' = W1.drew) := d1Size h1.drew.d1 f
  have HU : Hid (SH w W1 d O P vs b t D [] fl ∧ UB O P W1 W.heap.size #[.pointer (some ⟨b, o, none⟩)] 30 ∧ UB O P W1 (W.heap.size + 1) #[.int .i64 0] 31 ∧ Fp (fun k => O k + P k) W (fun k => O k + P k) W1) := ⟨h1, u1, u2, h.fp_below hb1⟩
  have HX : Hid (Box vs o d f n t) := hx
  have HwW : Hid (w.heap.size ≤ W.heap.size) := h.d1.bel.size
  have lb := h1.blt
  have hz1 : W1.heap.size = W.heap.size + 2 := by rw [hW1]; simp
  have lx1 := u1.bk.lt
  have lx2 := u2.bk.lt
  have x2 := u2.bk.cell 0
  have xf2 := u2.bk.frozen 0
  have c2 := (h1.c3s hx).2.2
  simp only [List.getElem?_toArray, List.getElem?_cons_zero] at x2
  by_cases h0 : fndE D.off f = 0
  · have esz : sizeV D f = ((D.now f).length : Int) := by unfold sizeV; rw [if_pos h0, Int.toNat_natCast]
    have hlen := hf.inv.len f hf8
    have erd : rdE D f 0 ((D.now f).length : Int) = 0 := by
      unfold rdE
      rw [if_neg (by rw [h0]; simp), Int.toNat_natCast, if_neg (by omega)]
    have erv : rdV D f 0 ((D.now f).length : Int) = D.now f := by
      unfold rdV
      rw [if_pos erd, Int.toNat_natCast, Int.toNat_natCast]
      show ((D.now f).drop 0).take _ = _
      rw [List.drop_zero, List.take_length]
    have HRd : Hid (Calls Try.prog 72 #[.pointer (some ⟨d, 0, none⟩), .int .i64 (f : Int), .int .i64 0, .int .i64 ((D.now f).length : Int)] W1.drew.drew fun e w' => ∃ v', e = .returned (.tuple #[v', .int .i64 0]) ∧ Ow w' W1.heap.size v' (D.now f) ∧ Below W1.heap.size W1 w') := by
      refine (d1Read h1.drew.drew.d1 hf f 0 ((D.now f).length : Int) (by omega) (by omega)).mono ?_
      rintro e w' ⟨v', rfl, h2, h3⟩
      rw [erv] at h2
      rw [erd]
      exact ⟨v', rfl, h2, ((Below.refl _ _).drew.drew).trans h3⟩
    rw [esz, h0] at HSz
    have HE : Hid (fndE D.off f = 0) := h0
    have HLn : Hid ((D.now f).length ≤ 131072) := hlen
    clear esz erd erv h h1 u1 u2 hx h0 hb1
    obtain ⟨r, hr⟩ : ∃ r, r = D.now f := ⟨_, rfl⟩
    have HRr : Hid (r = D.now f) := hr
    rw [← hr] at HRd HSz hlen
    clear hr
    have hlm : IntKind.i64.wrap (128 * (n : Int)) = 128 * (n : Int) := by rw [IntKind.wrap_i64]; omega
    refine (callsIn_wide (n := 6)).1 ?_
    refine callsIn_of_wp_marks Try.func58 rfl trivial ?_ rfl
    simp only [Try.ntmps58, List.size_toArray, List.length_cons, List.length_nil, Nat.reduceAdd, Nat.reduceSub, Array.replicate_succ, Array.replicate_zero, List.push_toArray, List.append_toArray, List.nil_append, List.cons_append]
    refine wpIn_wide.2 ?_
    go_upto_region 1 with fail
    rw [← hW1]
    clear hW1
    go_region_held3 (fun w' => w'.cell? ⟨W.heap.size, 0, none⟩ = some (.pointer (some ⟨b, o, none⟩)) ∧ w'.cell? ⟨b, o, none⟩ = some (.pointer (some ⟨d, 0, none⟩)) ∧ w'.cell? ⟨b, o + 1, none⟩ = some (.int .i64 (f : Int))) ((show S3 W.heap.size b o d f _; repeat (first | with_reducible exact hT | with_reducible refine S3.drew ?_))) ((go_at_call 28; refine Calls.mono HSz.out ?_; rintro e w8 ⟨rfl, hw8⟩; have hw8 := hw8.symm; subst hw8))
    go_upto_region 4 with fail
    go_region_held3 (fun w' => w'.cell? ⟨W.heap.size, 0, none⟩ = some (.pointer (some ⟨b, o, none⟩)) ∧ w'.cell? ⟨b, o, none⟩ = some (.pointer (some ⟨d, 0, none⟩)) ∧ w'.cell? ⟨b, o + 1, none⟩ = some (.int .i64 (f : Int))) ((show S3 W.heap.size b o d f _; repeat (first | with_reducible exact hT | with_reducible refine S3.drew ?_))) ((go_at_call 72; refine Calls.mono HRd.out ?_; rintro e w7 ⟨v7, rfl, hr7, hb7⟩; obtain ⟨ad7, cap7, hv7, hlc7⟩ := hr7.shape; subst hv7; have HR7 : Hid (Ow w7 W1.heap.size (.slice ad7 r.length cap7) r) := hr7; have HB7 : Hid (Below W1.heap.size W1 w7) := hb7; have hT := hT.below hb7; clear hr7))
    have x1 := hT.1
    have c2 := (hb7.cell (World.block_lt_of_cell? _ _ c2)).trans c2
    have x2 := (hb7.cell (World.block_lt_of_cell? _ _ x2)).trans x2
    have xf2 := (hb7.frozen (p := ⟨W.heap.size + 1, 0, none⟩) lx2).trans xf2
    have lx2 : W.heap.size + 1 < w7.heap.size := by have := hb7.size; omega
    clear hb7
    have HS7 : Hid (SH w w7 d O P vs b t D [] fl ∧ UB O P w7 W.heap.size #[.pointer (some ⟨b, o, none⟩)] 30 ∧ UB O P w7 (W.heap.size + 1) #[.int .i64 0] 31 ∧ Fp (fun k => O k + P k) W (fun k => O k + P k) w7) := ⟨HU.out.1.below HB7.out, HU.out.2.1.below HB7.out, HU.out.2.2.1.below HB7.out, HU.out.2.2.2.trans (Fp.of_below _ HB7.out)⟩
    by_cases h2 : 128 * n < r.length
    · have HLo : Hid (lodE D f n = 1) := lodE_long HE.out (by rw [← HRr.out]; exact h2)
      have h2i : 128 * (n : Int) < (r.length : Int) := by omega
      clear h2
      generalize r.length = rl at *
      go_wp2_with fail
      obtain ⟨he, hc9⟩ := load_end (v := .int .i64 1) HS7.out.1 HS7.out.2.2.1 HS7.out.2.2.2 (by omega) HwW.out
      refine ⟨.int .i64 1, ?_, by rw [HLo.out], _, fun h9 => absurd h9 (by rw [HLo.out]; simp), he⟩
      simp [results, Try.f58, go_sem, hc9]
    have h2i : ¬ 128 * (n : Int) < (r.length : Int) := by omega
    have HH2 : Hid (¬ 128 * n < (D.now f).length) := by show ¬ _; rw [← HRr.out]; exact h2
    have HCh : Hid (Calls Try.prog 73 #[.slice ad7 r.length cap7, .int .i64 (n : Int)] w7 (ChkQ w7 (.slice ad7 r.length cap7) n)) := chunk10 w7 ad7 r.length cap7 n (by omega)
    obtain ⟨rl, hrl⟩ : ∃ rl, rl = r.length := ⟨_, rfl⟩
    have HRl : Hid (rl = r.length) := hrl
    rw [← hrl] at HCh h2i HR7 hlc7 ⊢
    clear hrl
    go_wp2_with (go_at_call 73; refine Calls.mono HCh.out ?_; rintro e w6 ⟨rfl, bC, bC1, hb6, hz6⟩)
    refine (wpIn_wide (n := 6)).1 ?_
    have HB6 : Hid (Below w7.heap.size w7 w6) := hb6
    have hrb7 : Rb w7 (.slice ad7 rl cap7) r := by have h9 := HR7.out.rb (by omega); exact h9
    have hun : ∀ k m c, (Value.slice ad7 rl cap7) = .slice (some ⟨k, m, none⟩) r.length c → UZ O P w7 k := fun k m c e => by
      have hk := HR7.out.ge (k := k) (by rw [e]; rfl)
      have hz9 : W.heap.size ≤ k := by omega
      exact ⟨hk.2, by rw [HU.out.1.d1.new hk.1, HU.out.1.pnew hk.1]⟩
    have hWw7 : W.heap.size ≤ w7.heap.size := by have := HB7.out.size; omega
    have h0 : SLd w d vs b o t O P W D n W.heap.size w7.heap.size (.slice ad7 rl cap7) r fl [] w6 := by
      refine ⟨[], O, P, HS7.out.1.below hb6, HS7.out.2.2.2.trans (Fp.of_below _ hb6), HS7.out.2.1.below hb6, HS7.out.2.2.1.below hb6, ⟨⟨bC.lt, ?_⟩, ⟨bC1.lt, ?_⟩⟩, ⟨hrb7.below hb6, fun k m c e => (hun k m c e).below hb6⟩, rfl, rfl⟩
      · rw [HS7.out.1.d1.new (Nat.le_refl _), HS7.out.1.pnew (Nat.le_refl _)]
      · rw [HS7.out.1.d1.new (by omega), HS7.out.1.pnew (by omega)]
    obtain ⟨g, hg⟩ : ∃ g, 0 < rl → ad7 = some ⟨g, 0, none⟩ := by
      rcases HR7.out.2 with ⟨e, hz⟩ | ⟨g, c, cur, e, _⟩
      · exact ⟨0, fun h9 => by have := HRl.out; omega⟩
      · simp at e; exact ⟨g, fun _ => e.1⟩
    have HGg : Hid (0 < rl → ad7 = some ⟨g, 0, none⟩) := hg
    have HW6 : Hid (W.heap.size ≤ w6.heap.size ∧ W.heap.size + 2 ≤ w7.heap.size) := ⟨by have := hb6.size; omega, by have := HB7.out.size; omega⟩
    have hnc : nch rl n ≤ 128 := by
      unfold nch
      have h9 : rl ≤ 128 * n := by omega
      refine Nat.le_of_lt_succ ((Nat.div_lt_iff_lt_mul (by omega)).2 ?_)
      omega
    have HNc : Hid (nch rl n ≤ 128) := hnc
    refine wpIn_rangeP rfl (by omega) (gf := 89) (lb := #[.pointer (some ⟨w7.heap.size, 0, none⟩), .pointer (some ⟨w7.heap.size + 1, 0, none⟩)]) rfl trivial (enters_of Try.func89 rfl rfl)
      (chunk_seq _ w7.heap.size n rl cap7 g (by omega) HX.out.hn (by omega) (by omega) ad7 hg w6 bC bC1) KpK.trans (KpK.put bC.lt (fun k hk => by injection hk with hk; subst hk; exact bC1.lt)) (Below.refl _ _) (fun _ => rfl)
      (fun pre A => SLd w d vs b o t O P W D n W.heap.size w7.heap.size (.slice ad7 rl cap7) r fl pre A) (fun c pre A => c = .ret ∧ lodE D f n = 1 ∧ SXd w d vs b t O P W D (W.heap.size + 1) fl A) (fun s A B h hb => h.below hb) (fun c s A B h hb => ⟨h.1, h.2.1, h.2.2.below hb⟩) (fun s A l o o' hl h hc hi => hi.put HwW.out (Nat.le_trans HW6.out.1 hl) h hc) (fun c s A l o o' hl h hc hi => ⟨hi.1, hi.2.1, hi.2.2.put HwW.out (Nat.le_trans HW6.out.1 hl) h hc⟩) h0
      (fun pre x a' A => CGd (nch rl n) pre x ∧ a' = { tmps := #[.pointer (some ⟨b, o, none⟩), .pointer (some ⟨W.heap.size, 0, none⟩), .pointer (some ⟨W.heap.size + 1, 0, none⟩), .int .i64 (rl : Int), .int .i64 0, .slice ad7 rl cap7, .slice (some ⟨g, x * n, none⟩) (min n (rl - x * n)) (min n (rl - x * n)), undef, undef, .tuple #[.int .i64 (rl : Int), .int .i64 0], .pointer (some ⟨b, o, none⟩), .pointer (some ⟨b, o, none⟩), .pointer (some ⟨b, o, none⟩), .pointer (some ⟨d, 0, none⟩), .pointer (some ⟨b, o, none⟩), .pointer (some ⟨b, o, none⟩), .pointer (some ⟨b, o + 1, none⟩), .int .i64 (f : Int), .tuple #[.int .i64 (rl : Int), .int .i64 0], .int .i64 (rl : Int), .int .i64 0, .int .i64 0, .bool false, undef, .tuple #[.slice ad7 rl cap7, .int .i64 0], .pointer (some ⟨b, o, none⟩), .pointer (some ⟨b, o, none⟩), .pointer (some ⟨b, o, none⟩), .pointer (some ⟨d, 0, none⟩), .pointer (some ⟨b, o, none⟩), .pointer (some ⟨b, o, none⟩), .pointer (some ⟨b, o + 1, none⟩), .int .i64 (f : Int), .int .i64 (rl : Int), .tuple #[.slice ad7 rl cap7, .int .i64 0], .slice ad7 rl cap7, .int .i64 0, .int .i64 0, .bool false, undef, .int .i64 (rl : Int), .pointer (some ⟨b, o, none⟩), .pointer (some ⟨b, o, none⟩), .pointer (some ⟨b, o + 2, none⟩), .int .i64 (n : Int), .int .i64 (128 * (n : Int)), .bool false, .slice ad7 rl cap7, .pointer (some ⟨b, o, none⟩), .pointer (some ⟨b, o, none⟩), .pointer (some ⟨b, o + 2, none⟩), .int .i64 (n : Int), .func (.func 89) #[] #[.pointer (some ⟨w7.heap.size, 0, none⟩), .pointer (some ⟨w7.heap.size + 1, 0, none⟩)], .slice (some ⟨g, x * n, none⟩) (min n (rl - x * n)) (min n (rl - x * n)), undef, undef, undef, undef, undef, undef, undef, undef, undef, undef, undef, undef, undef, undef, undef, undef, undef, undef, undef, undef, undef, undef, undef, undef], defers := [] }) (fun pre x a' A l o o' hl h hc hx => hx) ?assign ?body ?done ?stop
    case assign =>
      intro l pre x A0 A K hi0 hbA hgd hi hK
      simp only [cenc]
      clear hg hrb7 hun
      gi_wp2
      exact hK _ _ (KeepsFrom.refl _ _) (KpK.refl _ _ _) hi ⟨hgd, rfl⟩
    case body =>
      rintro l pre x a' A hi ⟨⟨hxm, hpre⟩, rfl⟩
      obtain ⟨ps1, O1, P1, h1, f1, v1, v2, uz, ⟨hrb, hru⟩, hlo, hpl⟩ := hi
      have hxl : pre.length = x := by rw [hpre]; simp
      have hxn : x * n < rl := (nch_lt (by omega)).1 hxm
      obtain rfl := hg (by omega)
      obtain ⟨e, he⟩ : ∃ e, e = min n (rl - x * n) := ⟨_, rfl⟩
      have hrll := HRl.out
      have hbl : ((r.drop (x * n)).take n).length = e := by rw [List.length_take, List.length_drop]; omega
      have hrbj : Rb A (.slice (some ⟨g, x * n, none⟩) e e) ((r.drop (x * n)).take n) := by
        have h9 := rb_sub hrb (x * n) (x * n + e) e (by omega) (by omega) (by omega)
        rw [Nat.zero_add, show x * n + e - x * n = e by omega] at h9
        have h8 : (r.drop (x * n)).take e = (r.drop (x * n)).take n := by
          by_cases h7 : n ≤ rl - x * n
          · rw [show e = n by omega]
          · rw [List.take_of_length_le (by rw [List.length_drop]; omega), List.take_of_length_le (by rw [List.length_drop]; omega)]
        rw [h8] at h9
        exact h9
      have HLi : Hid (Calls Try.prog 74 #[.slice (some ⟨g, x * n, none⟩) e e, .int .i64 (n : Int)] A (LieQ A (lieV ((r.drop (x * n)).take n) n))) := lies10 A g (x * n) e e n _ hrbj hbl (by omega) (Nat.le_refl _) HX.out.hn (by omega)
      have HBad : Hid ((lieV ((r.drop (x * n)).take n) n).2 = false → lodE D f n = 1) := fun h9 => lodE_none HE.out HH2.out (by rw [← HRr.out]; exact lods_bad (by omega) (by omega) h9)
      have HGood : Hid ((lieV ((r.drop (x * n)).take n) n).2 = true → lods n ((chk n r).take (pre ++ [x]).length) = some (ps1 ++ [(lieV ((r.drop (x * n)).take n) n).1])) := fun h9 => by
        have h8 : (pre ++ [x]).length = x + 1 := by rw [List.length_append, hxl]; rfl
        rw [hxl] at hlo
        rw [h8, chk_take (by omega) r (by omega)]
        exact lods_snoc hlo h9
      have HPre : Hid ((pre ++ [x]).length = x + 1 ∧ ps1.length = x) := ⟨by rw [List.length_append, hxl]; rfl, by omega⟩
      have HI2 : Hid (SH w A d O1 P1 vs b t D ps1 fl ∧ Fp (fun k => O k + P k) W (fun k => O1 k + P1 k) A ∧ UB O1 P1 A W.heap.size #[.pointer (some ⟨b, o, none⟩)] 30 ∧ UB O1 P1 A (W.heap.size + 1) #[.int .i64 0] 31 ∧ (UZ O1 P1 A w7.heap.size ∧ UZ O1 P1 A (w7.heap.size + 1)) ∧ (Rb A (.slice (some ⟨g, 0, none⟩) rl cap7) r ∧ ∀ k m c, (Value.slice (some ⟨g, 0, none⟩) rl cap7) = .slice (some ⟨k, m, none⟩) r.length c → UZ O1 P1 A k)) := ⟨h1, f1, v1, v2, uz, hrb, hru⟩
      have y1 := v1.bk.cell 0
      have yl1 := v1.bk.lt
      have c2 := (h1.c3s HX.out).2.2
      have lb := h1.blt
      simp only [List.getElem?_toArray, List.getElem?_cons_zero] at y1
      have hx128 : x < 128 := by omega
      rw [← he]
      generalize lieV ((r.drop (x * n)).take n) n = L at *
      generalize hxp : x * n = xp at *
      clear h1 f1 v1 v2 uz hrb hru hlo hpl hxl hpre hxm hxn he hrll hbl hrbj h0 x1 x2 xf2 lx1 lx2 hg hrb7 hun bC bC1
      by_cases hok : L.2 = true
      · have hgd := HGood.out hok
        have HGd : Hid (lods n ((chk n r).take (pre ++ [x]).length) = some (ps1 ++ [L.1])) := hgd
        rw [hok] at HBad
        clear hgd HGood HBad
        obtain ⟨p, hp⟩ : ∃ p, p = L.1 := ⟨_, rfl⟩
        have HLp : Hid (LieQ A L = LieQ A (p, true)) := by show _ = _; rw [hp, ← hok]
        rw [HLp.out] at HLi
        rw [← hp] at HGd
        clear hp HLp hok
        gi_wp2_with (refine ⟨trivial, ?_⟩; gi_at_call 74; refine (callsIn_wide.2 (Calls.mono HLi.out fun _ _ h => h)).mono ?_; rintro e8 w8 ⟨rfl, hb8⟩; have H8 : Hid (Below A.heap.size A w8) := hb8; clear hb8)
        obtain ⟨W3, hW3⟩ : ∃ W3, W3 = w8.alloc (.cells #[.int .u8 (p.m.toNat : Int), .string p.tx] 94) := ⟨_, rfl⟩
        rw [← hW3]
        have hbA3 : Below A.heap.size A W3 := by rw [hW3]; exact H8.out.alloc H8.out.size _
        have HB13 : Hid (Below A.heap.size A (W3.drew.alloc (.cells #[.int .u8 (p.m.toNat : Int), .string p.tx] 94))) := hbA3.drew.alloc hbA3.size _
        have HBA3 : Hid (Below A.heap.size A W3) := hbA3
        have HT3 : Hid (W3.cell? ⟨W.heap.size, 0, none⟩ = some (.pointer (some ⟨b, o, none⟩)) ∧ Bk W3 w8.heap.size #[.int .u8 (p.m.toNat : Int), .string p.tx] 94) := ⟨(hbA3.cell yl1).trans y1, by show Bk _ _ _ _; rw [hW3]; exact Bk.new _ _ _⟩
        have lX1 : W.heap.size < W3.drew.heap.size := by have := hbA3.size; show W.heap.size < W3.heap.size; omega
        have HI3 : Hid (SH w A d O1 P1 vs b t D ps1 fl ∧ Fp (fun k => O k + P k) W (fun k => O1 k + P1 k) A ∧ UB O1 P1 A W.heap.size #[.pointer (some ⟨b, o, none⟩)] 30 ∧ UB O1 P1 A (W.heap.size + 1) #[.int .i64 0] 31 ∧ (UZ O1 P1 A w7.heap.size ∧ UZ O1 P1 A (w7.heap.size + 1)) ∧ (Rb A (.slice (some ⟨g, 0, none⟩) rl cap7) r ∧ ∀ k m c, (Value.slice (some ⟨g, 0, none⟩) rl cap7) = .slice (some ⟨k, m, none⟩) r.length c → UZ O1 P1 A k)) := HI2.out
        obtain ⟨pvp, hsb⟩ := HI3.out.1.sb
        obtain ⟨adp, capp, hpv, _⟩ := hsb.row.shape
        have c3 := (hbA3.drew.cell (p := ⟨b, o + 3, none⟩) lb).trans (hsb.c3 HX.out)
        rw [hpv] at c3
        rw [hpv] at hsb
        have c3b : W3.cell? ⟨b, o + 3, none⟩ = some (.slice adp ps1.length capp) := c3
        have HSb : Hid (SB A P1 vs b t (.slice adp ps1.length capp) ps1 fl) := hsb
        have HRow : Hid ((W3.drew.alloc (.cells #[.int .u8 (p.m.toNat : Int), .string p.tx] 94)).ownsRow 0 94 2 (.slice adp ps1.length capp) ps1.length (ps1.flatMap pcl)) := ownsRow_same hsb.row fun k hk => HB13.out.block k (hsb.row.lt hk)
        have HOne : Hid (Src Try.prog 2 88 (.slice (some ⟨W3.heap.size, 0, none⟩) 1 1) 1 (pcl p) (W3.drew.alloc (.cells #[.int .u8 (p.m.toNat : Int), .string p.tx] 94))) := one_pl (Bk.new W3.drew _ _)
        have HPl : Hid (ps1.length ≤ 200) := by show _ ≤ _; have := HPre.out.2; omega
        obtain ⟨j0, hj0, hj1, hj2, hj3⟩ := info_of infoPl
        have HJ : Hid (Try.prog.info? 94 = some j0 ∧ j0.zero = some (.agg #[.int .u8 0, .string ⟨#[]⟩]) ∧ j0.size = 2 ∧ j0.bytes = 24) := ⟨hj0, hj1, hj2, hj3⟩
        clear hj0 hj1 hj2 hj3
        have lb3 : b < W3.heap.size := by have := hbA3.size; omega
        have hnb1 : W.heap.size ≠ b := fun e => by
          have h7 := HI3.out.2.2.1.un
          have h8 := hsb.tb
          rw [e] at h7
          omega
        have hnb2 : w8.heap.size ≠ b := by have := H8.out.size; omega
        have HNb : Hid (W.heap.size ≠ b ∧ w8.heap.size ≠ b) := ⟨hnb1, hnb2⟩
        have HKp : Hid (∀ w5, (W3.drew.alloc (.cells #[.int .u8 (p.m.toNat : Int), .string p.tx] 94)).grownBy w5 (Value.slice adp ps1.length capp).ownBlock → w5.cell? ⟨W.heap.size, 0, none⟩ = some (.pointer (some ⟨b, o, none⟩)) ∧ Bk w5 w8.heap.size #[.int .u8 (p.m.toNat : Int), .string p.tx] 94) := fun w5 hg5 => by
          have hne : ∀ k, (Value.slice adp ps1.length capp).ownBlock = some k → k ≠ W.heap.size ∧ k < A.heap.size := fun k hk => ⟨fun e => by
            have h7 := HI3.out.2.2.1.un
            have h8 := HSb.out.tr k hk
            rw [e] at h8
            omega, HSb.out.row.lt hk⟩
          have hz8 := H8.out.size
          refine ⟨(World.cell?_of_block (a := ⟨W.heap.size, 0, none⟩) (hg5.block W.heap.size (by simp; exact Nat.lt_succ_of_lt lX1) (fun e => (hne _ e.symm).1 rfl))).trans ((World.cell?_of_block (a := ⟨W.heap.size, 0, none⟩) (Below.heap_alloc W3.drew _ W.heap.size lX1)).trans HT3.out.1), ?_⟩
          exact (HT3.out.2.drew.alloc _).grown hg5 (fun e => by have := (hne _ e.symm).2; omega)
        clear hW3 hbA3 hsb hpv hnb1 hnb2 y1 yl1 c2 lb hlc7
        refine round_held (S := fun w' => w'.cell? ⟨W.heap.size, 0, none⟩ = some (.pointer (some ⟨b, o, none⟩)) ∧ Bk w' w8.heap.size #[.int .u8 (p.m.toNat : Int), .string p.tx] 94) (by kernel_rfl) (by kernel_rfl) (fun _ _ h => h) ?_ (fun hHeld => ?_)
        · ((try dsimp only); exact ⟨HT3.out.1, HT3.out.2.drew⟩)
        (try dsimp only at hHeld)
        refine wpAnyH_take (i := 0) (oi := ⟨some 65, _, _, _, _, _⟩) (v := ?_) rfl (by kernel_rfl) (by kernel_rfl) (by kernel_rfl) (fun _ _ _ h => h) (Or.inl ⟨by rfl, ?_⟩) (by assumption) ?_
        rotate_left
        · (intro w hSw; (try dsimp only at hSw); go_simp; try (with_reducible rfl))
        (try dsimp only); (try simp only [Act.put, List.setIfInBounds_toArray, List.set_cons_zero, List.set_cons_succ])
        refine wpAnyH_take (i := 1) (oi := ⟨some 66, _, _, _, _, _⟩) (v := ?_) rfl (by kernel_rfl) (by kernel_rfl) (by kernel_rfl) (fun _ _ _ h => h) (Or.inl ⟨by rfl, ?_⟩) (by assumption) ?_
        rotate_left
        · (intro w hSw; (try dsimp only at hSw); go_simp; try (with_reducible rfl))
        (try dsimp only); (try simp only [Act.put, List.setIfInBounds_toArray, List.set_cons_zero, List.set_cons_succ])
        refine wpAnyH_take (i := 2) (oi := ⟨some 67, _, _, _, _, _⟩) (v := ?_) rfl (by kernel_rfl) (by kernel_rfl) (by kernel_rfl) (fun _ _ _ h => h) (Or.inl ⟨by rfl, ?_⟩) (by assumption) ?_
        rotate_left
        · (intro w hSw; (try dsimp only at hSw); go_simp; try (with_reducible rfl))
        (try dsimp only); (try simp only [Act.put, List.setIfInBounds_toArray, List.set_cons_zero, List.set_cons_succ])
        refine wpAnyH_take (i := 3) (oi := ⟨some 68, _, _, _, _, _⟩) (v := ?_) rfl (by kernel_rfl) (by kernel_rfl) (by kernel_rfl) (fun _ _ _ h => h) (Or.inl ⟨by rfl, ?_⟩) (by assumption) ?_
        rotate_left
        · (intro w hSw; (try dsimp only at hSw); go_simp; try (with_reducible rfl))
        (try dsimp only); (try simp only [Act.put, List.setIfInBounds_toArray, List.set_cons_zero, List.set_cons_succ])
        refine wpAnyH_take (i := 5) (oi := ⟨some 70, _, _, _, _, _⟩) rfl (by kernel_rfl) (by kernel_rfl) (by kernel_rfl) (fun _ _ _ h => h) (yl_pl (by rfl) _ rfl rfl (fun w' h => range_bk h.2)) (by assumption) ?_
        (try dsimp only); (try simp only [Act.put, List.setIfInBounds_toArray, List.set_cons_zero, List.set_cons_succ])
        refine wpAnyH_ready (rs := [4, 6]) (by kernel_rfl) (by simp) ?_
        refine AllReadyH.cons (o := ⟨some 69, _, _, _, _, _⟩) rfl (fun K hK => ?_) (AllReadyH.cons (o := ⟨some 71, _, _, _, _, _⟩) rfl (fun K hK => ?_) AllReadyH.nil)
        · go_simp
          refine hK.out _ _ hHeld (fun hHeld => ?_)
          clear hK K
          (try dsimp only); (try simp only [Act.put, List.setIfInBounds_toArray, List.set_cons_zero, List.set_cons_succ])
          refine wpAnyH_ready (rs := [6]) (by kernel_rfl) (by simp) ?_
          refine AllReadyH.cons (o := ⟨some 71, _, _, _, _, _⟩) rfl (fun K hK => ?_) AllReadyH.nil
          go_simp
          refine hK.out _ _ ⟨(World.cell?_of_block (a := ⟨W.heap.size, 0, none⟩) (Below.heap_alloc W3.drew _ W.heap.size lX1)).trans hHeld.1, hHeld.2.alloc _⟩ (fun hHeld => ?_)
          clear hK K
          (try dsimp only); (try simp only [Act.put, List.setIfInBounds_toArray, List.set_cons_zero, List.set_cons_succ])
          refine wpAnyH_ready (rs := [7]) (by kernel_rfl) (by simp) ?_
          refine AllReadyH.cons (o := ⟨some 72, _, _, _, _, _⟩) rfl (fun K hK => ?_) AllReadyH.nil
          refine step_append_own9 rfl _ _ 88 88 rfl 0 94 j0 (.agg #[.int .u8 0, .string ⟨#[]⟩]) 2 24 Try.underlying88 HJ.out.1 HJ.out.2.1 HJ.out.2.2.1 HJ.out.2.2.2 rfl (.slice adp ps1.length capp) (.slice (some ⟨W3.heap.size, 0, none⟩) 1 1) ps1.length (ps1.flatMap pcl) 1 (pcl p) rfl rfl HRow.out HOne.out (by have := HPl.out; unfold maxLen; omega) (by have := HPl.out; omega) (Nat.zero_le _) ?_
          intro v5 w5 ho5 hg5 hs5
          obtain ⟨hp5, d5, d5f, lb5⟩ := HI3.out.1.app (p := p) HX.out HSb.out HB13.out ho5 hg5 hs5
          obtain ⟨ad5, n5, cap5, rfl⟩ := ownsRow_sl ho5
          have hX5 := HKp.out w5 hg5
          have HP5 : Hid (Post10 w d vs b t O1 P1 A D (ps1 ++ [p]) fl (w5.setCell ⟨b, o + 3, none⟩ (.slice ad5 n5 cap5))) := hp5
          refine hK.out _ _ hX5 (fun hHeld => ?_)
          clear hK K ho5 hg5 hs5 hX5 hp5
          (try dsimp only); (try simp only [Act.put, List.setIfInBounds_toArray, List.set_cons_zero, List.set_cons_succ])
          refine wpAnyH_take (i := 8) (oi := ⟨some 73, _, _, _, _, _⟩) (v := ?_) rfl (by kernel_rfl) (by kernel_rfl) (by kernel_rfl) (fun _ _ _ h => h) (Or.inl ⟨by rfl, ?_⟩) (by assumption) ?_
          rotate_left
          · (intro w hSw; (try dsimp only at hSw); go_simp; try (with_reducible rfl))
          (try dsimp only); (try simp only [Act.put, List.setIfInBounds_toArray, List.set_cons_zero, List.set_cons_succ])
          refine wpAnyH_take (i := 9) (oi := ⟨some 74, _, _, _, _, _⟩) (v := ?_) rfl (by kernel_rfl) (by kernel_rfl) (by kernel_rfl) (fun _ _ _ h => h) (Or.inl ⟨by rfl, ?_⟩) (by assumption) ?_
          rotate_left
          · (intro w hSw; (try dsimp only at hSw); go_simp; try (with_reducible rfl))
          (try dsimp only); (try simp only [Act.put, List.setIfInBounds_toArray, List.set_cons_zero, List.set_cons_succ])
          refine wpAnyH_ready (rs := [10]) (by kernel_rfl) (by simp) ?_
          refine AllReadyH.cons (o := ⟨none, _, _, _, _, _⟩) rfl (fun K hK => ?_) AllReadyH.nil
          go_simp
          refine hK.out _ _ ⟨(World.cell?_of_block (a := ⟨W.heap.size, 0, none⟩) (Below.heap_setCell w5 _ _ W.heap.size HNb.out.1)).trans hHeld.1, hHeld.2.other (a := ⟨b, o + 3, none⟩) HNb.out.2 _⟩ (fun hHeld => ?_)
          clear hK K
          (try dsimp only); (try simp only [Act.put, List.setIfInBounds_toArray, List.set_cons_zero, List.set_cons_succ])
          refine wpAnyH_done (by kernel_rfl) ?_ _
          obtain ⟨O5, P5, h5, f5⟩ := HP5.out
          refine ⟨f5.keepsFrom _, ⟨f5.keep _ HI3.out.2.2.2.2.1.1.1 HI3.out.2.2.2.2.1.1.2, fun k hk => by injection hk with hk; subst hk; exact f5.keep _ HI3.out.2.2.2.2.1.2.1 HI3.out.2.2.2.2.1.2.2⟩, ?_⟩
          exact ⟨ps1 ++ [p], O5, P5, h5, HI3.out.2.1.trans f5, HI3.out.2.2.1.call f5, HI3.out.2.2.2.1.call f5, ⟨HI3.out.2.2.2.2.1.1.call f5, HI3.out.2.2.2.2.1.2.call f5⟩, ⟨rb_untagged HI3.out.2.2.2.2.2.1 f5 HI3.out.2.2.2.2.2.2, fun k m c e => (HI3.out.2.2.2.2.2.2 k m c e).call f5⟩, HGd.out, by rw [List.length_append, HPre.out.1, HPre.out.2]; rfl⟩
        · go_simp
          refine hK.out _ _ ⟨(World.cell?_of_block (a := ⟨W.heap.size, 0, none⟩) (Below.heap_alloc W3.drew _ W.heap.size lX1)).trans hHeld.1, hHeld.2.alloc _⟩ (fun hHeld => ?_)
          clear hK K
          (try dsimp only); (try simp only [Act.put, List.setIfInBounds_toArray, List.set_cons_zero, List.set_cons_succ])
          refine wpAnyH_ready (rs := [4]) (by kernel_rfl) (by simp) ?_
          refine AllReadyH.cons (o := ⟨some 69, _, _, _, _, _⟩) rfl (fun K hK => ?_) AllReadyH.nil
          go_simp
          refine hK.out _ _ hHeld (fun hHeld => ?_)
          clear hK K
          (try dsimp only); (try simp only [Act.put, List.setIfInBounds_toArray, List.set_cons_zero, List.set_cons_succ])
          refine wpAnyH_ready (rs := [7]) (by kernel_rfl) (by simp) ?_
          refine AllReadyH.cons (o := ⟨some 72, _, _, _, _, _⟩) rfl (fun K hK => ?_) AllReadyH.nil
          refine step_append_own9 rfl _ _ 88 88 rfl 0 94 j0 (.agg #[.int .u8 0, .string ⟨#[]⟩]) 2 24 Try.underlying88 HJ.out.1 HJ.out.2.1 HJ.out.2.2.1 HJ.out.2.2.2 rfl (.slice adp ps1.length capp) (.slice (some ⟨W3.heap.size, 0, none⟩) 1 1) ps1.length (ps1.flatMap pcl) 1 (pcl p) rfl rfl HRow.out HOne.out (by have := HPl.out; unfold maxLen; omega) (by have := HPl.out; omega) (Nat.zero_le _) ?_
          intro v5 w5 ho5 hg5 hs5
          obtain ⟨hp5, d5, d5f, lb5⟩ := HI3.out.1.app (p := p) HX.out HSb.out HB13.out ho5 hg5 hs5
          obtain ⟨ad5, n5, cap5, rfl⟩ := ownsRow_sl ho5
          have hX5 := HKp.out w5 hg5
          have HP5 : Hid (Post10 w d vs b t O1 P1 A D (ps1 ++ [p]) fl (w5.setCell ⟨b, o + 3, none⟩ (.slice ad5 n5 cap5))) := hp5
          refine hK.out _ _ hX5 (fun hHeld => ?_)
          clear hK K ho5 hg5 hs5 hX5 hp5
          (try dsimp only); (try simp only [Act.put, List.setIfInBounds_toArray, List.set_cons_zero, List.set_cons_succ])
          refine wpAnyH_take (i := 8) (oi := ⟨some 73, _, _, _, _, _⟩) (v := ?_) rfl (by kernel_rfl) (by kernel_rfl) (by kernel_rfl) (fun _ _ _ h => h) (Or.inl ⟨by rfl, ?_⟩) (by assumption) ?_
          rotate_left
          · (intro w hSw; (try dsimp only at hSw); go_simp; try (with_reducible rfl))
          (try dsimp only); (try simp only [Act.put, List.setIfInBounds_toArray, List.set_cons_zero, List.set_cons_succ])
          refine wpAnyH_take (i := 9) (oi := ⟨some 74, _, _, _, _, _⟩) (v := ?_) rfl (by kernel_rfl) (by kernel_rfl) (by kernel_rfl) (fun _ _ _ h => h) (Or.inl ⟨by rfl, ?_⟩) (by assumption) ?_
          rotate_left
          · (intro w hSw; (try dsimp only at hSw); go_simp; try (with_reducible rfl))
          (try dsimp only); (try simp only [Act.put, List.setIfInBounds_toArray, List.set_cons_zero, List.set_cons_succ])
          refine wpAnyH_ready (rs := [10]) (by kernel_rfl) (by simp) ?_
          refine AllReadyH.cons (o := ⟨none, _, _, _, _, _⟩) rfl (fun K hK => ?_) AllReadyH.nil
          go_simp
          refine hK.out _ _ ⟨(World.cell?_of_block (a := ⟨W.heap.size, 0, none⟩) (Below.heap_setCell w5 _ _ W.heap.size HNb.out.1)).trans hHeld.1, hHeld.2.other (a := ⟨b, o + 3, none⟩) HNb.out.2 _⟩ (fun hHeld => ?_)
          clear hK K
          (try dsimp only); (try simp only [Act.put, List.setIfInBounds_toArray, List.set_cons_zero, List.set_cons_succ])
          refine wpAnyH_done (by kernel_rfl) ?_ _
          obtain ⟨O5, P5, h5, f5⟩ := HP5.out
          refine ⟨f5.keepsFrom _, ⟨f5.keep _ HI3.out.2.2.2.2.1.1.1 HI3.out.2.2.2.2.1.1.2, fun k hk => by injection hk with hk; subst hk; exact f5.keep _ HI3.out.2.2.2.2.1.2.1 HI3.out.2.2.2.2.1.2.2⟩, ?_⟩
          exact ⟨ps1 ++ [p], O5, P5, h5, HI3.out.2.1.trans f5, HI3.out.2.2.1.call f5, HI3.out.2.2.2.1.call f5, ⟨HI3.out.2.2.2.2.1.1.call f5, HI3.out.2.2.2.2.1.2.call f5⟩, ⟨rb_untagged HI3.out.2.2.2.2.2.1 f5 HI3.out.2.2.2.2.2.2, fun k m c e => (HI3.out.2.2.2.2.2.2 k m c e).call f5⟩, HGd.out, by rw [List.length_append, HPre.out.1, HPre.out.2]; rfl⟩
      · have hok : L.2 = false := by simpa using hok
        rw [hok] at HBad
        have HBd : Hid (lodE D f n = 1) := HBad.out rfl
        gi_wp2_with (refine ⟨trivial, ?_⟩; gi_at_call 74; refine (callsIn_wide.2 (Calls.mono HLi.out fun _ _ h => h)).mono ?_; rintro e8 w8 ⟨rfl, hb8⟩; rw [hok]; have lb8 := hb8; have y2 := (HI2.out.2.2.2.1.below hb8).bk.cell 0; have yf2 := (HI2.out.2.2.2.1.below hb8).bk.frozen 0; have yl2 := (HI2.out.2.2.2.1.below hb8).bk.lt; simp only [List.getElem?_toArray, List.getElem?_cons_zero] at y2; have H8 : Hid (Below A.heap.size A w8) := hb8; clear hb8 lb8)
        have hb8 := H8.out
        have c9 := HI2.out.2.2.2.1.below hb8
        obtain ⟨he9, _⟩ := load_end (v := .int .i64 1) (HI2.out.1.below hb8) c9 (HI2.out.2.1.trans (Fp.of_below _ hb8)) (by omega) HwW.out
        have hba : Below (w8.setCell ⟨W.heap.size + 1, 0, none⟩ (.int .i64 1)).heap.size (w8.setCell ⟨W.heap.size + 1, 0, none⟩ (.int .i64 1)) ((w8.setCell ⟨W.heap.size + 1, 0, none⟩ (.int .i64 1)).alloc (.cells #[.int .u8 (L.1.m.toNat : Int), .string L.1.tx] 94)) := (Below.refl _ _).alloc (Nat.le_refl _) _
        have hb9 := (c9.set 0 (.int .i64 1) (ys := #[.int .i64 1]) rfl).bk
        exact ⟨((kf_below hb8).trans ((KeepsOthers.setCell _ _ _).from _)).trans (kf_below hba), rfl, HBd.out, ⟨_, he9.belowA hba⟩, hb9.below hba hb9.lt⟩
    case done =>
      rintro D9 xs A hD hxs hi hK
      subst hxs
      obtain ⟨ps1, O1, P1, h1, f1, v1, v2, uz, ⟨hrb, hru⟩, hlo, hpl⟩ := hi
      rw [List.length_range] at hlo hpl
      have hall : lods n (chk n r) = some ps1 := by
        rw [List.take_of_length_le (by rw [chk_len (by omega), ← HRl.out]; exact Nat.le_refl _)] at hlo
        exact hlo
      have hlE : lodE D f n = if fits ps1 = true then 0 else 1 := lodE_some HE.out HH2.out (by rw [← HRr.out]; exact hall)
      have hlP : lodP D f n = ps1 := by unfold lodP; rw [← HRr.out, hall]; rfl
      have HL1 : Hid (lodE D f n = (if fits ps1 = true then 0 else 1) ∧ lodP D f n = ps1) := ⟨hlE, hlP⟩
      obtain ⟨pv1, hs1⟩ := h1.sb
      have HMf : Hid (Calls Try.prog 75 #[.pointer (some ⟨b, o, none⟩)] A fun e w' => e = .returned (.bool (fits ps1)) ∧ Below A.heap.size A w') := movesFit10 HX.out hs1 (by omega)
      have HI2 : Hid (SH w A d O1 P1 vs b t D ps1 fl ∧ Fp (fun k => O k + P k) W (fun k => O1 k + P1 k) A ∧ UB O1 P1 A (W.heap.size + 1) #[.int .i64 0] 31) := ⟨h1, f1, v2⟩
      have y1 := v1.bk.cell 0
      have yl1 := v1.bk.lt
      simp only [List.getElem?_toArray, List.getElem?_cons_zero] at y1
      have hl9 : W.heap.size ≤ D9 := Nat.le_trans HW6.out.1 hD
      have hX2D : D9 ≠ W.heap.size + 1 := fun e => by
        rw [e, show A.heap[W.heap.size + 1]? = _ from v2.bk] at hK; simp at hK
      clear h1 f1 v1 v2 uz hrb hru hlo hpl hall hlE hlP hs1 x1 x2 xf2 lx1 lx2 h0 hg hrb7 hun bC bC1
      by_cases hfit : fits ps1 = true
      · rw [hfit] at HMf
        have HL2 : Hid (lodE D f n = 0) := by show _ = _; rw [HL1.out.1, if_pos hfit]
        go_wp2_with (go_at_call 75; refine Calls.mono HMf.out ?_; rintro e w10 ⟨rfl, hb10⟩; have z2 := (HI2.out.2.2.below hb10).bk.cell 0; have zf2 := (HI2.out.2.2.below hb10).bk.frozen 0; have zl2 := (HI2.out.2.2.below hb10).bk.lt; simp only [List.getElem?_toArray, List.getElem?_cons_zero] at z2; have H10 : Hid (Below A.heap.size A w10) := hb10; clear hb10)
        have u3 := HI2.out.2.2.below H10.out
        obtain ⟨he, hc9⟩ := load_end (v := .int .i64 0) (HI2.out.1.below H10.out) u3 (HI2.out.2.1.trans (Fp.of_below _ H10.out)) (by omega) HwW.out
        have hK10 : (w10.setCell ⟨W.heap.size + 1, 0, none⟩ (.int .i64 0)).heap[D9]? = some (.deferred (some [])) := (Below.heap_setCell w10 _ _ D9 hX2D).trans ((H10.out.block D9 (Array.getElem?_eq_some_iff.1 hK).1).trans hK)
        have hbk9 : Bk (w10.setCell ⟨W.heap.size + 1, 0, none⟩ (.int .i64 0)) (W.heap.size + 1) #[.int .i64 0] 31 := (u3.set 0 _ rfl).bk
        have hc10 : ∀ x', ((w10.setCell ⟨W.heap.size + 1, 0, none⟩ (.int .i64 0)).putObj D9 x').cell? ⟨W.heap.size + 1, 0, none⟩ = some (.int .i64 0) := fun x' => (bk_put9 (x' := x') hbk9 hK10 rfl).cell 0
        refine ⟨by simp, .inl ⟨_, _, rfl, run_takeDeferred hK10, ?_⟩⟩
        refine ⟨.int .i64 0, ?_, by rw [HL2.out], ps1, fun _ => HL1.out.2.symm, he.putA HwW.out hl9 hK10 rfl⟩
        simp [results, Try.f58, go_sem, hc10]
      · have HL2 : Hid (lodE D f n = 1) := by show _ = _; rw [HL1.out.1, if_neg hfit]
        have hfit : fits ps1 = false := by simpa using hfit
        rw [hfit] at HMf
        go_wp2_with (go_at_call 75; refine Calls.mono HMf.out ?_; rintro e w10 ⟨rfl, hb10⟩; have z2 := (HI2.out.2.2.below hb10).bk.cell 0; have zf2 := (HI2.out.2.2.below hb10).bk.frozen 0; have zl2 := (HI2.out.2.2.below hb10).bk.lt; simp only [List.getElem?_toArray, List.getElem?_cons_zero] at z2; have H10 : Hid (Below A.heap.size A w10) := hb10; clear hb10)
        have u3 := HI2.out.2.2.below H10.out
        obtain ⟨he, hc9⟩ := load_end (v := .int .i64 1) (HI2.out.1.below H10.out) u3 (HI2.out.2.1.trans (Fp.of_below _ H10.out)) (by omega) HwW.out
        have hK10 : (w10.setCell ⟨W.heap.size + 1, 0, none⟩ (.int .i64 1)).heap[D9]? = some (.deferred (some [])) := (Below.heap_setCell w10 _ _ D9 hX2D).trans ((H10.out.block D9 (Array.getElem?_eq_some_iff.1 hK).1).trans hK)
        have hbk9 : Bk (w10.setCell ⟨W.heap.size + 1, 0, none⟩ (.int .i64 1)) (W.heap.size + 1) #[.int .i64 1] 31 := (u3.set 0 _ rfl).bk
        have hc10 : ∀ x', ((w10.setCell ⟨W.heap.size + 1, 0, none⟩ (.int .i64 1)).putObj D9 x').cell? ⟨W.heap.size + 1, 0, none⟩ = some (.int .i64 1) := fun x' => (bk_put9 (x' := x') hbk9 hK10 rfl).cell 0
        refine ⟨by simp, .inl ⟨_, _, rfl, run_takeDeferred hK10, ?_⟩⟩
        refine ⟨.int .i64 1, ?_, by rw [HL2.out], ps1, fun h9 => absurd h9 (by rw [HL2.out]; simp), he.putA HwW.out hl9 hK10 rfl⟩
        simp [results, Try.f58, go_sem, hc10]
    case stop =>
      rintro D9 c pre A hD hS ⟨rfl, hlo, ⟨ps1, he⟩, hbk⟩ hK
      have HL1 : Hid (lodE D f n = 1) := hlo
      have HE2 : Hid (Post10 w d vs b t O P W D ps1 fl A ∧ Bk A (W.heap.size + 1) #[.int .i64 1] 31) := ⟨he, hbk⟩
      clear hlo he hbk x1 x2 xf2 lx1 lx2 h0 hg hrb7 hun bC bC1
      gi_wp2
      have hl9 : W.heap.size ≤ D9 := Nat.le_trans HW6.out.1 hD
      have hc9 : ∀ x', (A.putObj D9 x').cell? ⟨W.heap.size + 1, 0, none⟩ = some (.int .i64 1) := fun x' => (bk_put9 (x' := x') HE2.out.2 hK rfl).cell 0
      refine ⟨by simp, .inl ⟨_, _, rfl, run_takeDeferred hK, ?_⟩⟩
      refine ⟨.int .i64 1, ?_, by rw [HL1.out], ps1, fun h9 => absurd h9 (by rw [HL1.out]; simp), HE2.out.1.putA HwW.out hl9 hK rfl⟩
      simp [results, Try.f58, go_sem, hc9]
  · have esz : sizeV D f = 0 := by unfold sizeV; rw [if_neg h0]
    have HL1 : Hid (lodE D f n = fndE D.off f) := lodE_off h0
    have hne3 : (fndE D.off f != 0) = true := by rw [bne_iff_ne]; exact h0
    have HN0 : Hid (fndE D.off f ≠ 0) := h0
    rw [esz] at HSz
    clear esz h h1 u1 u2 hx h0 hb1
    generalize hev : fndE D.off f = ev at *
    clear hev
    refine (callsIn_wide (n := 6)).1 ?_
    refine callsIn_of_wp_marks Try.func58 rfl trivial ?_ rfl
    simp only [Try.ntmps58, List.size_toArray, List.length_cons, List.length_nil, Nat.reduceAdd, Nat.reduceSub, Array.replicate_succ, Array.replicate_zero, List.push_toArray, List.append_toArray, List.nil_append, List.cons_append]
    refine wpIn_wide.2 ?_
    go_upto_region 1 with fail
    rw [← hW1]
    clear hW1
    go_region_held3 (fun w' => w'.cell? ⟨W.heap.size, 0, none⟩ = some (.pointer (some ⟨b, o, none⟩)) ∧ w'.cell? ⟨b, o, none⟩ = some (.pointer (some ⟨d, 0, none⟩)) ∧ w'.cell? ⟨b, o + 1, none⟩ = some (.int .i64 (f : Int))) ((show S3 W.heap.size b o d f _; repeat (first | with_reducible exact hT | with_reducible refine S3.drew ?_))) ((go_at_call 28; refine Calls.mono HSz.out ?_; rintro e w8 ⟨rfl, hw8⟩; have hw8 := hw8.symm; subst hw8))
    go_wp2_with fail
    have u3 := HU.out.2.2.1.below (Below.refl _ _).drew
    obtain ⟨he, hc9⟩ := load_end (v := .int .i64 ev) HU.out.1.drew u3 (HU.out.2.2.2.trans (Fp.of_below _ (Below.refl _ _).drew)) (by omega) HwW.out
    refine ⟨.int .i64 ev, ?_, by rw [HL1.out], _, fun h9 => absurd h9 (by rw [HL1.out]; exact HN0.out), he⟩
    have hc9 : (W1.setCell ⟨W.heap.size + 1, 0, none⟩ (.int .i64 ev)).cell? ⟨W.heap.size + 1, 0, none⟩ = some (.int .i64 ev) := hc9
    simp [results, Try.f58, go_sem, hc9]
end
end Go.Proofs.Ytjbhegakgdcldaa

import Derived.Test.YtjbhegakgdcldaaShP
set_option linter.unusedSimpArgs false
set_option linter.unusedVariables false
set_option maxRecDepth 100000
namespace Go.Proofs.Ytjbhegakgdcldaa
open Go.RowKit

/-! lies. -/
theorem rb_at {W : World} {b off n cap : Nat} {l : List UInt8} (h : Rb W (.slice (some ⟨b, off, none⟩) n cap) l) (hn : l.length = n) (i : Nat) (hi : i < n) : W.cell? ⟨b, off + i, none⟩ = some (.int .u8 ((l.getD i 0).toNat : Int)) := by
  obtain ⟨ad, c, e, hle, hm, hc⟩ := h
  simp at e
  obtain ⟨rfl, _, rfl⟩ := e
  obtain ⟨b', off', e1, e2⟩ := hc i (by omega)
  simp at e1
  obtain ⟨rfl, rfl⟩ := e1
  rw [e2]
  simp [List.getD, show i < l.length by omega]
theorem bits_or_i64_nat (a b : Nat) (ha : a < 2 ^ 62) (hb : b < 2 ^ 62) : Go.bits BinOp.or IntKind.i64 (a : Int) (b : Int) = ((a ||| b : Nat) : Int) := by
  have hx : a ||| b < 2 ^ 62 := Nat.or_lt_two_pow ha hb
  have h1 : (BitVec.ofInt 64 (a : Int)).toNat = a := by
    rw [BitVec.ofInt_natCast, BitVec.toNat_ofNat]; exact Nat.mod_eq_of_lt (by omega)
  have h2 : (BitVec.ofInt 64 (b : Int)).toNat = b := by
    rw [BitVec.ofInt_natCast, BitVec.toNat_ofNat]; exact Nat.mod_eq_of_lt (by omega)
  show IntKind.i64.wrap ((BitVec.ofInt 64 (a : Int) ||| BitVec.ofInt 64 (b : Int)).toNat : Int) = _
  rw [BitVec.toNat_or, h1, h2, IntKind.wrap_i64]
  omega
theorem or_two (a b : Nat) (ha : a < 256) (hb : b < 256) : Go.bits BinOp.or IntKind.i64 ((a : Int) * 256) (b : Int) = ((a * 256 + b : Nat) : Int) := by
  have e : (a : Int) * 256 = ((a * 256 : Nat) : Int) := by omega
  rw [e, bits_or_i64_nat _ _ (by omega) (by omega)]
  congr 1
  have := Nat.two_pow_add_eq_or_of_lt (i := 8) (b := b) (by omega) a
  rw [show a * 256 = 2 ^ 8 * a by omega]
  exact this.symm
def LieQ (W : World) (r : Pl × Bool) (e : Ending) (w' : World) : Prop := e = .returned (.tuple #[.agg #[.int .u8 (r.1.m.toNat : Int), .string r.1.tx], .bool r.2]) ∧ Below W.heap.size W w'
theorem lieV_free {l : List UInt8} {n : Nat} (h : l.getD 0 0 = 0) : lieV l n = (pl0, true) := if_pos h
theorem lieV_short {l : List UInt8} {n : Nat} (h : l.getD 0 0 ≠ 0) (h2 : l.length < n) : lieV l n = (pl0, false) := by unfold lieV; rw [if_neg h, if_pos h2]
theorem lieV_long {l : List UInt8} {n k : Nat} (h : l.getD 0 0 ≠ 0) (h2 : ¬ l.length < n) (hk : (l.getD 1 0).toNat * 256 + (l.getD 2 0).toNat = k) (h3 : n - 16 < k) : lieV l n = (pl0, false) := by unfold lieV; rw [if_neg h, if_neg h2]; simp only []; rw [hk, if_pos h3]
theorem lieV_in {l : List UInt8} {n k : Nat} (h : l.getD 0 0 ≠ 0) (h2 : ¬ l.length < n) (hk : (l.getD 1 0).toNat * 256 + (l.getD 2 0).toNat = k) (h3 : ¬ n - 16 < k) : lieV l n = (⟨l.getD 0 0, ⟨((l.drop 16).take k).toArray⟩⟩, decide (l.drop 1 = (img n ⟨((l.drop 16).take k).toArray⟩).drop 1)) := by unfold lieV; rw [if_neg h, if_neg h2]; simp only []; rw [hk, if_neg h3]
def T2 (X : Nat) (m : UInt8) (tx : ByteArray) (w' : World) : Prop := w'.cell? ⟨X, 0, none⟩ = some (.int .u8 (m.toNat : Int)) ∧ w'.cell? ⟨X, 1, none⟩ = some (.string tx)
theorem T2.drew {X : Nat} {m : UInt8} {tx : ByteArray} {w' : World} (h : T2 X m tx w') : T2 X m tx w'.drew := h
theorem T2.below {X : Nat} {m : UInt8} {tx : ByteArray} {A B : World} (h : T2 X m tx A) (hb : Below A.heap.size A B) : T2 X m tx B := ⟨(hb.cell (World.block_lt_of_cell? _ _ h.1)).trans h.1, (hb.cell (World.block_lt_of_cell? _ _ h.2)).trans h.2⟩
theorem T2.other {X g i : Nat} {m : UInt8} {tx : ByteArray} {A : World} (h : T2 X m tx A) (hne : X ≠ g) (u : Value) : T2 X m tx (A.setCell ⟨g, i, none⟩ u) := ⟨(World.cell?_of_block (a := ⟨X, 0, none⟩) (Below.heap_setCell A ⟨g, i, none⟩ u X hne)).trans h.1, (World.cell?_of_block (a := ⟨X, 1, none⟩) (Below.heap_setCell A ⟨g, i, none⟩ u X hne)).trans h.2⟩
set_option maxHeartbeats 4000000 in
theorem lies10 (W : World) (g off len cap n : Nat) (l : List UInt8) (h : Rb W (.slice (some ⟨g, off, none⟩) len cap) l) (hl : l.length = len) (h0 : 0 < len) (hlc : len ≤ cap) (hn : n = 128 ∨ n = 256 ∨ n = 512 ∨ n = 1024) (hc : len ≤ 1000000) :
    Calls Try.prog 74 #[.slice (some ⟨g, off, none⟩) len cap, .int .i64 (n : Int)] W (LieQ W (lieV l n)) := by
  have k0 := rb_at h hl 0 h0
  rw [Nat.add_zero] at k0
  have h0i : (0 : Int) < (len : Int) := by omega
  have lg : g < W.heap.size := World.block_lt_of_cell? W _ k0
  have HB1 : Hid (∀ u v, Below W.heap.size W (W.alloc (.cells #[u, v] 94))) := fun u v => (Below.refl _ W).alloc (Nat.le_refl _) _
  have HSet : Hid (∀ A (x y : Value), Below W.heap.size W A → Below W.heap.size W ((A.setCell ⟨W.heap.size, 0, none⟩ x).setCell ⟨W.heap.size, 1, none⟩ y)) := fun A x y hA => (hA.setCell (p := ⟨W.heap.size, 0, none⟩) (Nat.le_refl _) x).setCell (p := ⟨W.heap.size, 1, none⟩) (Nat.le_refl _) y
  by_cases c0 : l.getD 0 0 = 0
  · rw [lieV_free c0]
    have e0 : ((l.getD 0 0).toNat : Int) = 0 := by rw [c0]; rfl
    rw [e0] at k0
    clear h e0 c0
    go_enter Try.func74, Try.ntmps74
    go_wp2_with fail
    have g0 := (Bk.new W #[.int .u8 0, .string ⟨#[]⟩] 94).cell 0
    have g1 := (Bk.new W #[.int .u8 0, .string ⟨#[]⟩] 94).cell 1
    simp only [List.getElem?_toArray, List.getElem?_cons_zero, List.getElem?_cons_succ] at g0 g1
    refine bodyPost_ret (v := .tuple #[.agg #[.int .u8 0, .string ⟨#[]⟩], .bool true]) ?_ rfl ⟨rfl, HB1.out _ _⟩
    simp [results, Try.results74, go_sem, g0, g1]
  have c0i : ¬ ((l.getD 0 0).toNat : Int) = 0 := fun h9 => c0 (u8_eq0.1 h9)
  by_cases c1 : l.length < n
  · rw [lieV_short c0 c1]
    have c1i : (len : Int) < (n : Int) := by omega
    clear h c0 c1
    generalize ((l.getD 0 0).toNat : Int) = b0 at *
    go_enter Try.func74, Try.ntmps74
    go_wp2_with fail
    have g0 := (Bk.new W #[.int .u8 0, .string ⟨#[]⟩] 94).cell 0
    have g1 := (Bk.new W #[.int .u8 0, .string ⟨#[]⟩] 94).cell 1
    simp only [List.getElem?_toArray, List.getElem?_cons_zero, List.getElem?_cons_succ] at g0 g1
    refine bodyPost_ret (v := .tuple #[.agg #[.int .u8 0, .string ⟨#[]⟩], .bool false]) ?_ rfl ⟨rfl, HB1.out _ _⟩
    simp [results, Try.results74, go_sem, g0, g1]
  have c1i : ¬ (len : Int) < (n : Int) := by omega
  have k1 := rb_at h hl 1 (by omega)
  have k2 := rb_at h hl 2 (by omega)
  have h1i : (1 : Int) < (len : Int) := by omega
  have h2i : (2 : Int) < (len : Int) := by omega
  have hb1 := (l.getD 1 0).toNat_lt
  have hb2 := (l.getD 2 0).toNat_lt
  have hw1 : IntKind.i64.wrap ((l.getD 1 0).toNat : Int) = ((l.getD 1 0).toNat : Int) := by rw [IntKind.wrap_i64]; omega
  have hw2 : IntKind.i64.wrap (((l.getD 1 0).toNat : Int) * 256) = ((l.getD 1 0).toNat : Int) * 256 := by rw [IntKind.wrap_i64]; omega
  have hw3 : IntKind.i64.wrap ((l.getD 2 0).toNat : Int) = ((l.getD 2 0).toNat : Int) := by rw [IntKind.wrap_i64]; omega
  have hor := or_two _ _ hb1 hb2
  obtain ⟨k, hk⟩ : ∃ k, (l.getD 1 0).toNat * 256 + (l.getD 2 0).toNat = k := ⟨_, rfl⟩
  rw [hk] at hor
  by_cases c2 : n - 16 < k
  · rw [lieV_long c0 c1 hk c2]
    have c2i : (n : Int) - 16 < (k : Int) := by omega
    clear h c0 c1 hk hb1 hb2
    generalize ((l.getD 0 0).toNat : Int) = b0 at *
    generalize ((l.getD 1 0).toNat : Int) = b1 at *
    generalize ((l.getD 2 0).toNat : Int) = b2 at *
    go_enter Try.func74, Try.ntmps74
    go_upto_region 5 with fail
    go_region
    go_wp2_with fail
    have g0 := (Bk.new W #[.int .u8 0, .string ⟨#[]⟩] 94).cell 0
    have g1 := (Bk.new W #[.int .u8 0, .string ⟨#[]⟩] 94).cell 1
    simp only [List.getElem?_toArray, List.getElem?_cons_zero, List.getElem?_cons_succ] at g0 g1
    refine bodyPost_ret (v := .tuple #[.agg #[.int .u8 0, .string ⟨#[]⟩], .bool false]) ?_ rfl ⟨rfl, (HB1.out _ _).drew⟩
    simp [results, Try.results74, go_sem, g0, g1]
  · rw [lieV_in c0 c1 hk c2]
    have c2i : ¬ (n : Int) - 16 < (k : Int) := by omega
    obtain ⟨tx, htx⟩ : ∃ tx : ByteArray, tx = ⟨((l.drop 16).take k).toArray⟩ := ⟨_, rfl⟩
    have htl : ((l.drop 16).take k).length = k := by simp; omega
    have hts : tx.size = k := by rw [htx]; show ((l.drop 16).take k).toArray.size = k; simp; omega
    obtain ⟨W2, hW2⟩ : ∃ W2, W2 = (W.alloc (.cells #[.int .u8 0, .string ⟨#[]⟩] 94)).drew := ⟨_, rfl⟩
    have hb2 : Below W.heap.size W W2 := by rw [hW2]; exact (HB1.out _ _).drew
    have hX : Bk W2 W.heap.size #[.int .u8 0, .string ⟨#[]⟩] 94 := by rw [hW2]; exact Bk.new _ _ _
    have hstr : ∀ W', Below W.heap.size W W' → (convert 58 9 (.slice (some ⟨g, off + 16, none⟩) (16 + k - 16) (cap - 16))).run Try.prog W' = .ok (.string tx) W' := fun W' hW' => by
      rw [htx]
      have := rb_sub (h.below hW') 16 (16 + k) (cap - 16) (by omega) (by omega) (by omega)
      have e : 16 + k - 16 = k := by omega
      rw [e] at this ⊢
      exact rb_string this htl
    have hs1 := hstr W2.drew hb2.drew
    have hs2 := hstr (W2.alloc (.cells #[.int .u8 0, .string ⟨#[]⟩] 94)).drew (hb2.alloc hb2.size _).drew
    have hc16 : ¬ cap = 16 := by omega
    have ek1 : 16 + k - 16 = k := by omega
    have ek2 : (16 + (k : Int)).toNat - 16 = k := by omega
    rw [ek1] at hs1 hs2
    have hs3 := hs1
    have hs4 := hs2
    rw [← ek2] at hs3 hs4
    have d0 : W2.cell? ⟨g, off, none⟩ = some (.int .u8 ((l.getD 0 0).toNat : Int)) := (hb2.cell lg).trans k0
    have h16 : (16 : Int) ≤ 16 + (k : Int) := by omega
    have hkl : 16 + (k : Int) ≤ (cap : Int) := by omega
    have hw4 : IntKind.i64.wrap (16 + (k : Int)) = 16 + (k : Int) := by rw [IntKind.wrap_i64]; omega
    have lg2 : g < W2.heap.size := by have := hb2.size; omega
    rw [← htx]
    have HEq : Hid (∀ w7 g7, Below W.heap.size W w7 → Rm w7 g7 n (imgH n tx ++ tx.data.toList) → Calls Try.prog 90 #[.slice (some ⟨g, off + 1, none⟩) (len - 1) (cap - 1), .slice (some ⟨g7, 1, none⟩) (n - 1) (n - 1)] w7 fun e w' => e = .returned (.bool (decide (l.drop 1 = (img n tx).drop 1))) ∧ w' = w7) := fun w7 g7 hb7 hr7 => by
      have r1 := rb_sub (h.below hb7) 1 len (cap - 1) (by omega) (Nat.le_refl _) (by omega)
      rw [List.take_of_length_le (by simp; omega)] at r1
      have hil : (img n tx).length = n := img_len (by omega)
      have r0 := hr7.rb (by rw [imgH_len]; omega) (by omega)
      rw [← img_eq, hil] at r0
      have r2 := rb_sub r0 1 n (n - 1) (by omega) (Nat.le_refl _) (Nat.le_refl _)
      rw [List.take_of_length_le (by simp; omega)] at r2
      exact equal10 w7 g (off + 1) (len - 1) (cap - 1) g7 (0 + 1) (n - 1) (n - 1) (l.drop 1) ((img n tx).drop 1) r1 (by simp; omega) r2 (by simp; omega)
    have HIm : Hid (∀ w, Calls Try.prog 84 #[.string tx, .int .i64 (n : Int)] w fun e w' => ∃ g, e = .returned (.slice (some ⟨g, 0, none⟩) n n) ∧ Rm w' g n (imgH n tx ++ tx.data.toList) ∧ w.heap.size ≤ g ∧ Below w.heap.size w w') := fun w => image10 tx n hn (by omega) w
    have hcap1 : ¬ cap = 1 := by omega
    have hn1 : ¬ n = 1 := by omega
    have hlen1 : 1 ≤ len := by omega
    have hlen1i : (1 : Int) ≤ (len : Int) := by omega
    have hlci : (len : Int) ≤ (cap : Int) := by omega
    have hn1ii : (1 : Int) ≤ (n : Int) := by omega
    have hXne : W2.heap.size ≠ W.heap.size := by have := hX.lt; omega
    have hn1i : 1 ≤ n := by omega
    have HX2 : Hid (Bk W2 W.heap.size #[.int .u8 0, .string ⟨#[]⟩] 94 ∧ Below W.heap.size W W2) := ⟨hX, hb2⟩
    clear h c0 c1 hk hb1 hstr hX htx
    generalize decide (l.drop 1 = (img n tx).drop 1) = bq at *
    generalize l.getD 0 0 = b0 at *
    generalize ((l.getD 1 0).toNat : Int) = b1 at *
    generalize ((l.getD 2 0).toNat : Int) = b2 at *
    go_enter Try.func74, Try.ntmps74
    go_upto_region 5 with fail
    go_region
    rw [← hW2]
    clear hW2
    go_upto_region 8 with fail
    go_region
    all_goals
      go_upto_region 9 with fail
      have hbb : Below W.heap.size W (W2.alloc (.cells #[.int .u8 (b0.toNat : Int), .string tx] 94)).drew := (HX2.out.2.alloc HX2.out.2.size _).drew
      have hx7 : Bk (W2.alloc (.cells #[.int .u8 (b0.toNat : Int), .string tx] 94)).drew W2.heap.size #[.int .u8 (b0.toNat : Int), .string tx] 94 := Bk.new W2 _ _
      have hx4 : Bk (W2.alloc (.cells #[.int .u8 (b0.toNat : Int), .string tx] 94)).drew W.heap.size #[.int .u8 0, .string ⟨#[]⟩] 94 := HX2.out.1.alloc _
      have hzz : W2.heap.size < (W2.alloc (.cells #[.int .u8 (b0.toNat : Int), .string tx] 94)).drew.heap.size := by simp
      generalize (W2.alloc (.cells #[.int .u8 (b0.toNat : Int), .string tx] 94)).drew = W3 at *
      have HX3 : Hid (Bk W3 W.heap.size #[.int .u8 0, .string ⟨#[]⟩] 94 ∧ Below W.heap.size W W3 ∧ W.heap.size < W3.heap.size) := ⟨hx4, hbb, hx4.lt⟩
      have hT : T2 W2.heap.size b0 tx W3 := ⟨hx7.cell 0, hx7.cell 1⟩
      clear hx7 hx4 hbb hs1 hs2 hs3 hs4
      go_region_held3 (fun w' => w'.cell? ⟨W2.heap.size, 0, none⟩ = some (.int .u8 (b0.toNat : Int)) ∧ w'.cell? ⟨W2.heap.size, 1, none⟩ = some (.string tx)) ((show T2 W2.heap.size b0 tx _; repeat (first | with_reducible exact hT | with_reducible refine T2.drew ?_ | with_reducible refine T2.other ?_ hXne _))) ((first
        | (go_at_call 84; refine Calls.mono (HIm.out _) ?_; rintro e w7 ⟨g7, rfl, hr7, hg7, hb7⟩; have hT := hT.drew.below hb7; have H7 : Hid (Rm w7 g7 n (imgH n tx ++ tx.data.toList) ∧ Below W.heap.size W w7 ∧ Bk w7 W.heap.size #[.int .u8 0, .string ⟨#[]⟩] 94) := ⟨hr7, HX3.out.2.1.drew.trans (hb7.mono HX3.out.2.1.drew.size), HX3.out.1.drew.below hb7 HX3.out.2.2⟩; clear hr7 hg7 hb7)
        | (go_at_call 90; refine Calls.mono (HEq.out _ _ H7.out.2.1 H7.out.1) ?_; rintro e w8 ⟨rfl, hw8⟩; have hw8 := hw8.symm; subst hw8; have q0 := H7.out.2.2.cell 0; have q1 := H7.out.2.2.cell 1; have q2 := H7.out.2.2.frozen 0; have q3 := H7.out.2.2.frozen 1; have q4 := H7.out.2.2.lt; simp only [List.getElem?_toArray, List.getElem?_cons_zero, List.getElem?_cons_succ] at q0 q1)))
      go_wp2_with fail
      have hz4 := ((H7.out.2.2.set 0 (.int .u8 (b0.toNat : Int)) (vs' := #[.int .u8 (b0.toNat : Int), .string ⟨#[]⟩]) rfl).set 1 (.string tx) (vs' := #[.int .u8 (b0.toNat : Int), .string tx]) rfl)
      have g0 := hz4.cell 0
      have g1 := hz4.cell 1
      simp only [List.getElem?_toArray, List.getElem?_cons_zero, List.getElem?_cons_succ] at g0 g1
      refine bodyPost_ret (v := .tuple #[.agg #[.int .u8 (b0.toNat : Int), .string tx], .bool bq]) ?_ rfl ⟨rfl, HSet.out _ _ _ H7.out.2.1⟩
      simp [results, Try.results74, go_sem, g0, g1]
end Go.Proofs.Ytjbhegakgdcldaa

/- Texts joined: ShR ShS0. -/
import Derived.Test.YtjbhegakgdcldaaJ9
import Derived.Test.YtjbhegakgdcldaaShQ
section
set_option linter.unusedSimpArgs false
set_option linter.unusedVariables false
set_option maxRecDepth 100000
namespace Go.Proofs.Ytjbhegakgdcldaa
open Go.RowKit Go.Shelf
attribute [local go_sem] Oper.semAt_some

/-! slices.Chunk of bytes, as a sequence. -/
def ChkQ (W : World) (v : Value) (n : Nat) (e : Ending) (w' : World) : Prop :=
  e = .returned (.func (.func 89) #[] #[.pointer (some ⟨W.heap.size, 0, none⟩), .pointer (some ⟨W.heap.size + 1, 0, none⟩)]) ∧ Bk w' W.heap.size #[v] 58 ∧ Bk w' (W.heap.size + 1) #[.int .i64 (n : Int)] 3 ∧ Below W.heap.size W w' ∧ w'.heap.size = W.heap.size + 2
set_option maxHeartbeats 1000000 in
theorem chunk10 (W : World) (ad : Option Addr) (len cap n : Nat) (hn : 1 ≤ n) :
    Calls Try.prog 73 #[.slice ad len cap, .int .i64 (n : Int)] W (ChkQ W (.slice ad len cap) n) := by
  have hni : ¬ (n : Int) < 1 := by omega
  go_enter Try.func73, Try.ntmps73
  go_wp2_with fail
  go_ret
  exact ⟨rfl, (Bk.new _ _ _).alloc _, Bk.new' _ _ _ (by simp), ((Below.refl _ W).alloc (Nat.le_refl _) _).alloc (by simp) _, by simp⟩
/-- How many pieces of n bytes. -/
def nch (len n : Nat) : Nat := (len + n - 1) / n
theorem nch_lt {len n j : Nat} (hn : 1 ≤ n) : j < nch len n ↔ j * n < len := by
  unfold nch
  rw [Nat.lt_div_iff_mul_lt (by omega)]
  have e : j * n = n * j := Nat.mul_comm ..
  omega
def cenc (g n len : Nat) (j : Nat) : Array Value := #[.slice (some ⟨g, j * n, none⟩) (min n (len - j * n)) (min n (len - j * n))]
def CGd (m : Nat) (pre : List Nat) (j : Nat) : Prop := j < m ∧ pre = List.range j
set_option maxHeartbeats 4000000 in
theorem chunk_seq (m X n len cap g : Nat) (hm : 1 ≤ m) (hn : n = 128 ∨ n = 256 ∨ n = 512 ∨ n = 1024) (hlen : len ≤ 1000000) (hlc : len ≤ cap) (ad : Option Addr) (had : 0 < len → ad = some ⟨g, 0, none⟩) (w : World) (hx : Bk w X #[.slice ad len cap] 58) (hx1 : Bk w (X + 1) #[.int .i64 (n : Int)] 3) :
    SeqA Fence.wide m Try.prog 89 #[.pointer (some ⟨X, 0, none⟩), .pointer (some ⟨X + 1, 0, none⟩)] (cenc g n len) (KpK X (some (X + 1))) (fun _ pre j _ => CGd (nch len n) pre j) (fun xs => xs = List.range (nch len n)) (fun xs => ∃ j, j < nch len n ∧ xs = List.range (j + 1)) w := by
  intro l J Jx W hbW hJ hJx hY h0
  have bX := hx.below hbW hx.lt
  have bX1 := hx1.below hbW hx1.lt
  have HY : Hid (∀ pre x A0 A, J pre A0 → Below A0.heap.size A0 A → CGd (nch len n) pre x → YieldAt Fence.wide (m - 1) Try.prog l (cenc g n len x) A fun e B => (e = .returned (.bool true) ∧ J (pre ++ [x]) B ∧ KpK X (some (X + 1)) A B) ∨ (e = .returned (.bool false) ∧ Jx (pre ++ [x]) B)) := hY
  have HJ : Hid (∀ s A B, J s A → Below A.heap.size A B → J s B) := hJ
  have HI : Hid (Bk W X #[.slice ad len cap] 58 ∧ Bk W (X + 1) #[.int .i64 (n : Int)] 3) := ⟨bX, bX1⟩
  clear hY hJ hJx hbW hx hx1
  show CallsIn Fence.wide m Try.prog 89 #[.func (.yield l) #[] #[], .pointer (some ⟨X, 0, none⟩), .pointer (some ⟨X + 1, 0, none⟩)] W _
  refine callsIn_of_wp Try.func89 rfl trivial ?_ rfl
  simp only [Try.ntmps89, List.size_toArray, List.length_cons, List.length_nil, Nat.reduceAdd, Nat.reduceSub, Array.replicate_succ, Array.replicate_zero, List.push_toArray, List.append_toArray, List.nil_append, List.cons_append]
  have x0 := bX.cell 0
  have x1 := bX1.cell 0
  simp only [List.getElem?_toArray, List.getElem?_cons_zero] at x0 x1
  clear bX bX1
  gi_wp2
  gi_loopw [4] (fun i wr => ∃ j : Nat, j ≤ nch len n ∧ i = .int .i64 ((j * n : Nat) : Int) ∧ Hid (Bk wr X #[.slice ad len cap] 58 ∧ Bk wr (X + 1) #[.int .i64 (n : Int)] 3) ∧ J (List.range j) wr) (fun i _ => 2000000 - (intOf i).toNat)
  case atStart => exact ⟨0, by omega, by simp, HI, h0⟩
  case round =>
    clear x0 x1 h0 HI
    obtain ⟨j, hj, rfl, HI, hJk⟩ := hrel
    have x0 := HI.out.1.cell 0
    have x1 := HI.out.2.cell 0
    simp only [List.getElem?_toArray, List.getElem?_cons_zero] at x0 x1
    have hiff := @nch_lt len n j (by omega)
    by_cases hlt : j * n < len
    · obtain rfl := had (by omega)
      have hjm : j < nch len n := hiff.2 hlt
      have HN : Hid (j + 1 ≤ nch len n ∧ (j + 1) * n = j * n + n) := ⟨hjm, Nat.succ_mul ..⟩
      have HR : Hid (List.range (j + 1) = List.range j ++ [j]) := List.range_succ
      have HYj : Hid (YieldAt Fence.wide (m - 1) Try.prog l (cenc g n len j) wr.drew fun e B => (e = .returned (.bool true) ∧ J (List.range j ++ [j]) B ∧ KpK X (some (X + 1)) wr.drew B) ∨ (e = .returned (.bool false) ∧ Jx (List.range j ++ [j]) B)) := HY.out _ _ wr wr.drew hJk (Below.refl _ _).drew ⟨hjm, rfl⟩
      have HIk : Hid (∀ B, KpK X (some (X + 1)) wr.drew B → Bk B X #[.slice (some ⟨g, 0, none⟩) len cap] 58 ∧ Bk B (X + 1) #[.int .i64 (n : Int)] 3) := fun B hB => ⟨hB.1.trans HI.out.1, (hB.2 _ rfl).trans HI.out.2⟩
      have hlt' : ((j * n : Nat) : Int) < (len : Int) := by omega
      obtain ⟨fn, tmps, assign, body, hy, hR⟩ := HYj.out
      simp only [cenc] at hy
      clear HYj hiff had hjm
      generalize hp : j * n = p at *
      have HP : Hid (j * n = p) := hp
      clear hp
      obtain ⟨e, he⟩ : ∃ e, e = min n (len - p) := ⟨_, rfl⟩
      rw [← he] at hy
      have hep : p + e ≤ len := by omega
      have he0 : 0 < e := by omega
      have hpc : (p : Int) ≤ (len : Int) := by omega
      have hlci : (len : Int) ≤ (cap : Int) := by omega
      have hpe1 : (p : Int) ≤ (p : Int) + (e : Int) := by omega
      have hpe2 : (p : Int) + (e : Int) ≤ (cap : Int) := by omega
      have hw1 : IntKind.i64.wrap ((p : Int) + (e : Int)) = (p : Int) + (e : Int) := by rw [IntKind.wrap_i64]; omega
      have hw2 : IntKind.i64.wrap ((p : Int) + (n : Int)) = (p : Int) + (n : Int) := by rw [IntKind.wrap_i64]; omega
      have hcp : ¬ cap = p := by omega
      by_cases hle : n ≤ len - p
      · have hen : e = n := by omega
        have hnl : ¬ ((len - p : Nat) : Int) < (n : Int) := by omega
        have hnl2 : (n : Int) ≤ ((len - p : Nat) : Int) := by omega
        clear he
        subst hen
        gi_wp2
        refine wpIn_wide.2 ?_
        go_region
        gi_wp2
        refine hR.mono ?_
        rintro e9 W3 (⟨rfl, hJ3, hk3⟩ | ⟨rfl, hJx3⟩)
        · have z1 := (HIk.out _ hk3).2.cell 0
          simp only [List.getElem?_toArray, List.getElem?_cons_zero] at z1
          gi_wp2
          go_roundw
          case rel => exact ⟨j + 1, HN.out.1, by rw [HN.out.2]; go_num, HIk.out _ hk3, by rw [HR.out]; exact hJ3⟩
          case measure => simp [intOf]; omega
        · gi_wp2
          refine bodyPost_ret (results_none rfl _ _ _) rfl ?_
          exact ⟨⟨_, rfl⟩, .inr ⟨_, ⟨j, HN.out.1, HR.out.symm⟩, hJx3⟩⟩
      · have hen : e = len - p := by omega
        have hnl : ((len - p : Nat) : Int) < (n : Int) := by omega
        have hnl2 : ¬ (n : Int) ≤ ((len - p : Nat) : Int) := by omega
        clear he
        subst hen
        gi_wp2
        refine wpIn_wide.2 ?_
        go_region
        gi_wp2
        refine hR.mono ?_
        rintro e9 W3 (⟨rfl, hJ3, hk3⟩ | ⟨rfl, hJx3⟩)
        · have z1 := (HIk.out _ hk3).2.cell 0
          simp only [List.getElem?_toArray, List.getElem?_cons_zero] at z1
          gi_wp2
          go_roundw
          case rel => exact ⟨j + 1, HN.out.1, by rw [HN.out.2]; go_num, HIk.out _ hk3, by rw [HR.out]; exact hJ3⟩
          case measure => simp [intOf]; omega
        · gi_wp2
          refine bodyPost_ret (results_none rfl _ _ _) rfl ?_
          exact ⟨⟨_, rfl⟩, .inr ⟨_, ⟨j, HN.out.1, HR.out.symm⟩, hJx3⟩⟩
    · have hlt' : ¬ ((j * n : Nat) : Int) < (len : Int) := by omega
      have HE : Hid (j = nch len n) := by show _ = _; omega
      clear hiff had
      generalize j * n = p at *
      gi_wp2
      go_end0
      refine ⟨⟨_, rfl⟩, .inl ?_⟩
      rw [← HE.out]; exact hJk
end Go.Proofs.Ytjbhegakgdcldaa
end
section
set_option linter.unusedSimpArgs false
set_option linter.unusedVariables false
set_option maxRecDepth 100000
namespace Go.Proofs.Ytjbhegakgdcldaa
open Go.RowKit

/-! A row in slots; what load stands on. -/
theorem chk_at (n : Nat) (hn : 0 < n) : ∀ (j : Nat) (r : List UInt8), (chk n r)[j]? = if j * n < r.length then some ((r.drop (j * n)).take n) else none
  | 0, r => by
    rw [Nat.zero_mul]
    unfold chk
    by_cases h : r = []
    · subst h; rw [dif_neg (fun h => h.2 rfl)]; rfl
    · rw [dif_pos ⟨hn, h⟩, if_pos (List.length_pos_iff.2 h)]; rfl
  | j + 1, r => by
    unfold chk
    by_cases h : r = []
    · subst h; rw [dif_neg (fun h => h.2 rfl), if_neg (by simp)]; rfl
    · rw [dif_pos ⟨hn, h⟩, List.getElem?_cons_succ, chk_at n hn j (r.drop n), List.length_drop, List.drop_drop]
      have e : n + j * n = (j + 1) * n := by rw [Nat.succ_mul]; omega
      rw [e]
      by_cases h2 : j * n < r.length - n
      · rw [if_pos h2, if_pos (by omega)]
      · rw [if_neg h2, if_neg (by omega)]
theorem chk_len {n : Nat} (hn : 0 < n) (r : List UInt8) : (chk n r).length = nch r.length n := by
  have h1 : ∀ j, j < (chk n r).length ↔ j < nch r.length n := fun j => by
    rw [nch_lt hn]
    have := chk_at n hn j r
    by_cases h2 : j * n < r.length
    · rw [if_pos h2] at this
      exact ⟨fun _ => h2, fun _ => (List.getElem?_eq_some_iff.1 this).1⟩
    · rw [if_neg h2] at this
      have h3 := List.getElem?_eq_none_iff.1 this
      exact ⟨fun h => absurd h (by omega), fun h => absurd h h2⟩
  have h2 := h1 (nch r.length n)
  have h3 := h1 (chk n r).length
  omega
theorem chk_take {n j : Nat} (hn : 0 < n) (r : List UInt8) (h : j * n < r.length) : (chk n r).take (j + 1) = (chk n r).take j ++ [(r.drop (j * n)).take n] := by
  have h2 := chk_at n hn j r
  rw [if_pos h] at h2
  rw [List.take_add_one, h2]
  rfl
theorem lods_append (n : Nat) : ∀ (xs ys : List (List UInt8)), lods n (xs ++ ys) = (lods n xs).bind fun ps => (lods n ys).map (ps ++ ·)
  | [], ys => by simp [lods]
  | b :: xs, ys => by
    show (if (lieV b n).2 = true then (lods n (xs ++ ys)).map ((lieV b n).1 :: ·) else none) = _
    rw [lods_append n xs ys]
    show _ = (if (lieV b n).2 = true then (lods n xs).map ((lieV b n).1 :: ·) else none).bind _
    split
    · cases h : lods n xs with
      | none => rfl
      | some ps => cases h2 : lods n ys <;> simp
    · rfl
theorem lods_snoc {n : Nat} {xs : List (List UInt8)} {ps : List Pl} {b : List UInt8} (h : lods n xs = some ps) (hb : (lieV b n).2 = true) : lods n (xs ++ [b]) = some (ps ++ [(lieV b n).1]) := by
  rw [lods_append, h]
  show (if (lieV b n).2 = true then (lods n []).map ((lieV b n).1 :: ·) else none).map (ps ++ ·) = _
  rw [if_pos hb]
  rfl
theorem lods_bad {n j : Nat} {r : List UInt8} (hn : 0 < n) (h : j * n < r.length) (hb : (lieV ((r.drop (j * n)).take n) n).2 = false) : lods n (chk n r) = none := by
  have e : chk n r = (chk n r).take (j + 1) ++ (chk n r).drop (j + 1) := (List.take_append_drop ..).symm
  rw [e, chk_take hn r h, List.append_assoc, lods_append]
  have e2 : lods n ([(r.drop (j * n)).take n] ++ (chk n r).drop (j + 1)) = none := by
    show (if (lieV ((r.drop (j * n)).take n) n).2 = true then _ else none) = none
    rw [if_neg (by rw [hb]; simp)]
  rw [e2]
  cases lods n (List.take j (chk n r)) <;> rfl
theorem yl_pl {ops : Array Oper} {S : World → Prop} {op : Oper} {a : Act} (hw : Region.wanted op (yielded ops a.tmps) = true) (x : Operand) (ho : op.op = .load 94 x)
    {b o : Nat} (hx : a.eval x = .pointer (some ⟨b, o, none⟩)) {p : Pl} (hS : ∀ w, S w → w.rangeAt b o (#[.int .u8 (p.m.toNat : Int), .string p.tx] : Array Value).toList) : YieldsIf Try.prog ops S op (.agg #[.int .u8 (p.m.toNat : Int), .string p.tx]) a :=
  yieldsIf_load_mid hw 94 x ho b o hx _ _ hS Try.underlying94 rfl (by kernel_rfl)
section
variable {w W W' A B : World} {O P O' P' : Nat → Nat} {vs : Value → Bool → Array Value} {b o d f n X : Nat} {t : TypeId} {ps ps' : List Pl} {fl fl' : Bool} {D D' : Ds} {pv v' : Value}
theorem rb_putO {A : World} {v : Value} {l : List UInt8} {k : Nat} {x x' : Obj} (h : Rb A v l) (hl : A.heap[k]? = some x) (hc : x.isCells = false) : Rb (A.putObj k x') v l :=
  h.cells fun a u hcell _ => by
    by_cases e : a.block = k
    · subst e
      unfold World.cell? at hcell
      rw [hl] at hcell
      cases x <;> simp_all [Obj.isCells]
    · rw [World.cell?_of_block (w := A) (World.putObj_heap_other e)]; exact hcell
theorem rb_untagged {v : Value} {l : List UInt8} (h : Rb A v l) (hf : Fp (fun k => O k + P k) A (fun k => O' k + P' k) B) (hz : ∀ k n c, v = .slice (some ⟨k, n, none⟩) l.length c → UZ O P A k) : Rb B v l :=
  h.fp hf fun k n c e => (hz k n c e).2
/-- Under way in load. -/
def SLd (w : World) (d : Nat) (vs : Value → Bool → Array Value) (b o : Nat) (t : TypeId) (O P : Nat → Nat) (W : World) (D : Ds) (n X1 X : Nat) (v : Value) (r : List UInt8) (fl : Bool) (pre : List Nat) (A : World) : Prop :=
  ∃ ps' O' P', SH w A d O' P' vs b t D ps' fl ∧ Fp (fun k => O k + P k) W (fun k => O' k + P' k) A ∧ UB O' P' A X1 #[.pointer (some ⟨b, o, none⟩)] 30 ∧ UB O' P' A (X1 + 1) #[.int .i64 0] 31 ∧ (UZ O' P' A X ∧ UZ O' P' A (X + 1)) ∧ (Rb A v r ∧ ∀ k n c, v = .slice (some ⟨k, n, none⟩) r.length c → UZ O' P' A k) ∧ lods n ((chk n r).take pre.length) = some ps' ∧ ps'.length = pre.length
theorem SLd.below {X1 : Nat} {v : Value} {r : List UInt8} {pre : List Nat} (h : SLd w d vs b o t O P W D n X1 X v r fl pre A) (hb : Below A.heap.size A B) : SLd w d vs b o t O P W D n X1 X v r fl pre B := by
  obtain ⟨ps', O', P', h1, h2, h3, h4, h5, h6, h7⟩ := h
  exact ⟨ps', O', P', h1.below hb, h2.trans (Fp.of_below _ hb), h3.below hb, h4.below hb, ⟨h5.1.below hb, h5.2.below hb⟩, ⟨h6.1.below hb, fun k n c e => (h6.2 k n c e).below hb⟩, h7⟩
theorem SLd.put {X1 l : Nat} {v : Value} {r : List UInt8} {pre : List Nat} {x x' : Obj} (h : SLd w d vs b o t O P W D n X1 X v r fl pre A) (hw : w.heap.size ≤ W.heap.size) (hl0 : W.heap.size ≤ l) (hl : A.heap[l]? = some x) (hc : x.isCells = false) : SLd w d vs b o t O P W D n X1 X v r fl pre (A.putObj l x') := by
  obtain ⟨ps', O', P', h1, h2, h3, h4, h5, h6, h7⟩ := h
  exact ⟨ps', O', P', h1.put (by omega) hl hc, h2.put hl0 hl, h3.put hl hc, h4.put hl hc, ⟨h5.1.put, h5.2.put⟩, ⟨rb_putO h6.1 hl hc, fun k n c e => (h6.2 k n c e).put⟩, h7⟩
/-- Left by a return: what lies there is none. -/
def SXd (w : World) (d : Nat) (vs : Value → Bool → Array Value) (b : Nat) (t : TypeId) (O P : Nat → Nat) (W : World) (D : Ds) (X2 : Nat) (fl : Bool) (A : World) : Prop :=
  (∃ ps', Post10 w d vs b t O P W D ps' fl A) ∧ Bk A X2 #[.int .i64 1] 31
theorem Post10.belowA (h : Post10 w d vs b t O P W D ps fl A) (hb : Below A.heap.size A B) : Post10 w d vs b t O P W D ps fl B := by
  obtain ⟨O', P', h2, h3⟩ := h
  exact ⟨O', P', h2.below hb, h3.trans (Fp.of_below _ hb)⟩
theorem Post10.putA {l : Nat} {x x' : Obj} (h : Post10 w d vs b t O P W D ps fl A) (hw : w.heap.size ≤ W.heap.size) (hl0 : W.heap.size ≤ l) (hl : A.heap[l]? = some x) (hc : x.isCells = false) : Post10 w d vs b t O P W D ps fl (A.putObj l x') := by
  obtain ⟨O', P', h2, h3⟩ := h
  exact ⟨O', P', h2.put (by omega) hl hc, h3.put hl0 hl⟩
theorem SXd.below {X2 : Nat} (h : SXd w d vs b t O P W D X2 fl A) (hb : Below A.heap.size A B) : SXd w d vs b t O P W D X2 fl B := by
  obtain ⟨⟨ps', h1⟩, h2⟩ := h
  exact ⟨⟨ps', h1.belowA hb⟩, h2.below hb h2.lt⟩
theorem SXd.put {X2 l : Nat} {x x' : Obj} (h : SXd w d vs b t O P W D X2 fl A) (hw : w.heap.size ≤ W.heap.size) (hl0 : W.heap.size ≤ l) (hl : A.heap[l]? = some x) (hc : x.isCells = false) : SXd w d vs b t O P W D X2 fl (A.putObj l x') := by
  obtain ⟨⟨ps', h1⟩, h2⟩ := h
  exact ⟨⟨ps', h1.putA hw hl0 hl hc⟩, bk_put9 h2 hl hc⟩
end
end Go.Proofs.Ytjbhegakgdcldaa
end

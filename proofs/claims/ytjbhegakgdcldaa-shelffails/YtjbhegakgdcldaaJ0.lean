/- Texts joined: Base Blk By Dsk DkA App0. -/
import Derived.Test.YtjbhegakgdcldaaProg
import Derived.WalkKit
import Derived.WalkSpells
import Derived.WalkLawsBesides
import Derived.Deep.QuietTactic
import Derived.BigQuiet
import Derived.KernelRfl
import Derived.Laws.Externs
import Derived.Laws.ResultCell
import Derived.Deep.AppendSrc
import Derived.Laws.OwnMore
import Derived.Laws.BytesArg
import Derived.Deep.MidRow
import Derived.Laws.CopyOwn
import Derived.RangeFuncWrites
import Derived.Deep.RegionHeld3
import Derived.Deep.DeepCutAuto
section
namespace Go.Proofs.Ytjbhegakgdcldaa
open Go.RowKit

/-! Blocks of cells, whole. -/
def Bk (w : World) (b : Nat) (vs : Array Value) (t : TypeId) : Prop := w.heap[b]? = some (.cells vs t)
theorem Bk.cell {w : World} {b : Nat} {vs : Array Value} {t : TypeId} (h : Bk w b vs t) (i : Nat) : w.cell? ⟨b, i, none⟩ = vs[i]? := by
  simp only [World.cell?]; rw [show w.heap[b]? = _ from h]; rfl
theorem Bk.frozen {w : World} {b : Nat} {vs : Array Value} {t : TypeId} (h : Bk w b vs t) (i : Nat) : w.frozen? ⟨b, i, none⟩ = false := by
  simp only [World.frozen?]; rw [show w.heap[b]? = _ from h]; simp
theorem Bk.lt {w : World} {b : Nat} {vs : Array Value} {t : TypeId} (h : Bk w b vs t) : b < w.heap.size := (Array.getElem?_eq_some_iff.1 h).1
theorem Bk.alloc {w : World} {b : Nat} {vs : Array Value} {t : TypeId} (h : Bk w b vs t) (o : Obj) : Bk (w.alloc o) b vs t := (Below.heap_alloc w o b h.lt).trans h
theorem Bk.new (w : World) (vs : Array Value) (t : TypeId) : Bk (w.alloc (.cells vs t)) w.heap.size vs t := by
  show (w.heap.push _)[w.heap.size]? = _; simp
theorem Bk.new' (w : World) (vs : Array Value) (t : TypeId) {b : Nat} (h : b = w.heap.size) : Bk (w.alloc (.cells vs t)) b vs t := by
  subst h; exact Bk.new w vs t
theorem Bk.drew {w : World} {b : Nat} {vs : Array Value} {t : TypeId} (h : Bk w b vs t) : Bk w.drew b vs t := h
theorem Bk.drewN {w : World} {b : Nat} {vs : Array Value} {t : TypeId} (h : Bk w b vs t) (n : Nat) : Bk (w.drewN n) b vs t := h
theorem Bk.other {w : World} {b : Nat} {vs : Array Value} {t : TypeId} (h : Bk w b vs t) {a : Addr} (ha : b ≠ a.block) (u : Value) : Bk (w.setCell a u) b vs t := (Below.heap_setCell w a u b ha).trans h
theorem Bk.set {w : World} {b : Nat} {vs vs' : Array Value} {t : TypeId} (h : Bk w b vs t) (i : Nat) (u : Value) (e : vs.setIfInBounds i u = vs') : Bk (w.setCell ⟨b, i, none⟩ u) b vs' t := by
  subst e; simp only [Bk, World.setCell, Array.getElem?_modify]; rw [show w.heap[b]? = _ from h]; simp
theorem Bk.below {w w' : World} {b n : Nat} {vs : Array Value} {t : TypeId} (h : Bk w b vs t) (hb : Below n w w') (hn : b < n) : Bk w' b vs t := (hb.block b hn).trans h
theorem bdrewN {B : Nat} {a w : World} (h : Below B a w) (n : Nat) : Below B a (w.drewN n) := ⟨h.os, h.tape, h.output, h.size, h.block⟩

abbrev A4 (a b c d : Int) : Array Value := #[.int .u64 a, .int .u64 b, .int .u64 c, .int .u64 d]

/-- Four limbs, each below 2^64. -/
def Lim (a0 a1 a2 a3 : Int) : Prop := (0 ≤ a0 ∧ a0 < 18446744073709551616) ∧ (0 ≤ a1 ∧ a1 < 18446744073709551616) ∧ (0 ≤ a2 ∧ a2 < 18446744073709551616) ∧ (0 ≤ a3 ∧ a3 < 18446744073709551616)
def val (a0 a1 a2 a3 : Int) : Int := a0 + a1 * 18446744073709551616 + a2 * 340282366920938463463374607431768211456 + a3 * 6277101735386680763835789423207666416102355444464034512896
def lb (n : Nat) (i : Nat) : Int := ((n / 2 ^ (64 * i) % 18446744073709551616 : Nat) : Int)
abbrev V (n : Nat) : Value := .agg (A4 (lb n 0) (lb n 1) (lb n 2) (lb n 3))
def M256 : Nat := 115792089237316195423570985008687907853269984665640564039457584007913129639936

theorem lb_lim (n : Nat) : Lim (lb n 0) (lb n 1) (lb n 2) (lb n 3) := by unfold Lim lb; omega
theorem lb_val (n : Nat) (h : n < M256) : val (lb n 0) (lb n 1) (lb n 2) (lb n 3) = n := by
  unfold M256 at h; unfold val lb
  simp only [Nat.mul_zero, Nat.pow_zero, Nat.div_one, Nat.reduceMul, Nat.reducePow]
  omega
theorem lb_of (n : Nat) (x0 x1 x2 x3 : Int) (hl : Lim x0 x1 x2 x3) (hv : val x0 x1 x2 x3 = n) : x0 = lb n 0 ∧ x1 = lb n 1 ∧ x2 = lb n 2 ∧ x3 = lb n 3 := by
  unfold Lim at hl; unfold val at hv; unfold lb
  simp only [Nat.mul_zero, Nat.pow_zero, Nat.div_one, Nat.reduceMul, Nat.reducePow]
  omega
theorem lb_zero (i : Nat) : lb 0 i = 0 := by simp [lb]
theorem V_zero : V 0 = .agg (A4 0 0 0 0) := by simp [V, lb_zero]
theorem val_nonneg (a0 a1 a2 a3 : Int) (h : Lim a0 a1 a2 a3) : 0 ≤ val a0 a1 a2 a3 ∧ val a0 a1 a2 a3 < M256 := by
  unfold Lim at h; unfold val M256; omega
theorem V_of (x0 x1 x2 x3 : Int) (hl : Lim x0 x1 x2 x3) : ∃ n : Nat, n < M256 ∧ (Value.agg (A4 x0 x1 x2 x3)) = V n ∧ val x0 x1 x2 x3 = n := by
  have h := val_nonneg _ _ _ _ hl
  refine ⟨(val x0 x1 x2 x3).toNat, by omega, ?_, by omega⟩
  obtain ⟨e0, e1, e2, e3⟩ := lb_of (val x0 x1 x2 x3).toNat x0 x1 x2 x3 hl (by omega)
  rw [V, ← e0, ← e1, ← e2, ← e3]
theorem info_of {P : Program} {t : TypeId} {z : Value} {s b : Nat} (h : (P.info? t).map (fun i => (i.zero, i.size, i.bytes)) = some (some z, s, b)) : ∃ i, P.info? t = some i ∧ i.zero = some z ∧ i.size = s ∧ i.bytes = b := by
  cases hp : P.info? t with
  | none => rw [hp] at h; simp at h
  | some i => rw [hp] at h; simp at h; exact ⟨i, rfl, h⟩
end Go.Proofs.Ytjbhegakgdcldaa
end
section
namespace Go.Proofs.Ytjbhegakgdcldaa
open Go.RowKit

/-! Blocks of four cells, written cell by cell. -/
theorem set4_Bk {W : World} {b : Nat} {t : TypeId} {x0 x1 x2 x3 : Value} (h : Bk W b #[x0, x1, x2, x3] t) (u0 u1 u2 u3 : Value) : Bk ((((W.setCell ⟨b, 0, none⟩ u0).setCell ⟨b, 1, none⟩ u1).setCell ⟨b, 2, none⟩ u2).setCell ⟨b, 3, none⟩ u3) b #[u0, u1, u2, u3] t :=
  ((((h.set 0 u0 rfl).set 1 u1 rfl).set 2 u2 rfl).set 3 u3 rfl)
theorem set4_other {W : World} {b c : Nat} {t : TypeId} {vs : Array Value} (h : Bk W b vs t) (hbc : b ≠ c) (u0 u1 u2 u3 : Value) : Bk ((((W.setCell ⟨c, 0, none⟩ u0).setCell ⟨c, 1, none⟩ u1).setCell ⟨c, 2, none⟩ u2).setCell ⟨c, 3, none⟩ u3) b vs t :=
  (((h.other hbc _).other hbc _).other hbc _).other hbc _
theorem set4_below {B : Nat} {W0 W : World} {b : Nat} (h : Below B W0 W) (hb : B ≤ b) (u0 u1 u2 u3 : Value) : Below B W0 ((((W.setCell ⟨b, 0, none⟩ u0).setCell ⟨b, 1, none⟩ u1).setCell ⟨b, 2, none⟩ u2).setCell ⟨b, 3, none⟩ u3) :=
  (((h.setCell (p := ⟨b, 0, none⟩) hb _).setCell (p := ⟨b, 1, none⟩) hb _).setCell (p := ⟨b, 2, none⟩) hb _).setCell (p := ⟨b, 3, none⟩) hb _
theorem set4_size {W : World} {b : Nat} (u0 u1 u2 u3 : Value) : ((((W.setCell ⟨b, 0, none⟩ u0).setCell ⟨b, 1, none⟩ u1).setCell ⟨b, 2, none⟩ u2).setCell ⟨b, 3, none⟩ u3).heap.size = W.heap.size := by simp
end Go.Proofs.Ytjbhegakgdcldaa
end
section
set_option linter.unusedSimpArgs false
set_option linter.unusedVariables false
namespace Go.Proofs.Ytjbhegakgdcldaa
open Go.RowKit

/-! Slices of a call's own, appended to out of whatever source; bytes as cells. -/
/-- The block of what comes back is the elder one, or a new one. -/
def Sn (w : World) (v v' : Value) : Prop := v'.ownBlock = v.ownBlock ∨ ∀ k, v'.ownBlock = some k → w.heap.size ≤ k
section
variable {P : Program} (w : World)
/-- One law for an append to a row of one's own, whatever is appended. -/
theorem run_append_own_src (base : Nat) (t tx ty e : TypeId) (i : TypeInfo) (z : Value) (size bytes : Nat) (ht : P.underlying t = some (.slice e)) (hi : P.info? e = some i) (hz : i.zero = some z)
    (hsize : i.size = size) (hby : i.bytes = bytes) (hzs : z.cells.size = size)
    (v : Value) (n : Nat) (xs : List Value) (hown : w.ownsRow base e size v n xs) (x : Value) (m : Nat) (news : List Value) (hs : Src P size tx x m news w)
    (h63 : n + m ≤ maxLen) (hbytes : (n + m) * bytes ≤ 140737488355328) (hbase : base ≤ w.heap.size) :
    ∃ v' w', (Builtin.append_ #[t, tx] ty #[v, x]).run P w = .ok v' w' ∧ w'.ownsRow base e size v' (n + m) (xs ++ news) ∧ w.grownBy w' v.ownBlock ∧ Sn w v v' := by
  subst hsize
  subst hby
  have hsmall : n + m ≤ 9223372036854775807 := by simp only [maxLen] at h63; omega
  have hl := hs.newsLen
  have hlen : (xs ++ news).length = (n + m) * i.size := by rw [List.length_append, hown.1, hl, Nat.add_mul]
  have grown : ∀ (old : Nat), old < n + m → ∀ (row : Option Nat),
      (w.drew.alloc (.cells ((xs ++ news).toArray ++ Builtin.zeroCells z.cells (grownCap w (n + m) old e - (n + m))) e)).ownsRow base e i.size
        (.slice (some ⟨w.heap.size, 0, none⟩) (n + m) (grownCap w (n + m) old e)) (n + m) (xs ++ news) ∧
      w.grownBy (w.drew.alloc (.cells ((xs ++ news).toArray ++ Builtin.zeroCells z.cells (grownCap w (n + m) old e - (n + m))) e)) row := by
    intro old ho row
    have hge := grownCap_ge w (n + m) old e
    have hcm : grownCap w (n + m) old e ≤ maxLen := grownCap_le_maxLen w (n + m) old e h63
    refine ⟨⟨hlen, .inr ⟨w.heap.size, _, _, rfl, hbase, heap_alloc_new w.drew _, hge, hcm, ?_, ?_⟩⟩, ⟨rfl, rfl, rfl, by simp, fun k hk _ => Below.heap_alloc w.drew _ k hk⟩⟩
    · simp only [Array.size_append, List.size_toArray, size_zeroCells, hzs, hlen, ← Nat.add_mul]
      congr 1
      omega
    · rw [Array.toList_append, ← hlen]
      exact List.take_left
  rcases hown.2 with ⟨rfl, rfl⟩ | ⟨g, cap, cur, rfl, hbg, hg, hnc, hcm, hcs, htake⟩
  · have hx : xs = [] := List.eq_nil_of_length_eq_zero (by simpa using hown.1)
    subst hx
    by_cases hm : m = 0
    · subst hm
      have hn : news = [] := List.eq_nil_of_length_eq_zero (by simpa using hl)
      subst hn
      refine ⟨.slice none 0 0, w, ?_, World.ownsRow_nil w base e i.size, ⟨rfl, rfl, rfl, Nat.le_refl _, fun _ _ _ => rfl⟩, .inl rfl⟩
      rcases hs.kind with ⟨e', hk⟩ | hk <;> simp [Builtin.append_, run_underlying ht, run_underlying hk, sizeOf, typeInfo, hi, hs.len, hs.cells]
    · have hr := run_append_grow_src (P := P) w t tx ty e i z ht hi hz none 0 0 [] (by simp [Builtin.firstCells]) x m news hs (by omega) (by omega) (growslice_fits (by omega) hbytes)
      have hgr := grown 0 (by omega) (Value.ownBlock (.slice none 0 0))
      exact ⟨_, _, hr, hgr.1, hgr.2, .inr (fun k hk => by simp [Value.ownBlock] at hk; omega)⟩
  · by_cases hroom : n + m ≤ cap
    · have hfit : n * i.size + news.length ≤ cur.size := by rw [hl, hcs, ← Nat.add_mul]; exact Nat.mul_le_mul_right _ hroom
      have hst := run_storeCells_at P g (n * i.size) e news 0 cur w hg (by simpa using hfit) hs.one
      simp only [Nat.add_zero] at hst
      have hr : (Builtin.append_ #[t, tx] ty #[.slice (some ⟨g, 0, none⟩) n cap, x]).run P w = .ok (.slice (some ⟨g, 0, none⟩) (n + m) cap) (w.setRow g (cur.toList.take (n * i.size) ++ news ++ cur.toList.drop (n * i.size + news.length)).toArray) := by
        rcases hs.kind with ⟨e', hk⟩ | hk <;> simp [Builtin.append_, run_underlying ht, run_underlying hk, sizeOf, typeInfo, hi, hs.len, hroom, hs.cells, Addr.add_lit, hst]
      refine ⟨_, _, hr, ⟨hlen, .inr ⟨g, cap, _, rfl, hbg, setRow_heap w g cur _ e _ hg, hroom, hcm, ?_, ?_⟩⟩, ⟨rfl, rfl, rfl, by simp, fun k _ hk => setRow_other w g k _ (fun e => hk (by simp [Value.ownBlock, e]))⟩, .inl rfl⟩
      · simp only [List.size_toArray, List.length_append, List.length_take, List.length_drop, Array.length_toList]
        omega
      · rw [htake, ← hlen]
        exact List.take_left
    · have hold : (Builtin.firstCells i.size n (.slice (some ⟨g, 0, none⟩) n cap)).run P w.drew = .ok xs.toArray w.drew :=
        run_firstCells_some w.drew i.size n ⟨g, 0, none⟩ n cap xs hown.1 (by simpa using hown.cells (g := g) rfl)
      have hr := run_append_grow_src (P := P) w t tx ty e i z ht hi hz (some ⟨g, 0, none⟩) n cap xs hold x m news hs (by omega) (by omega) (growslice_fits (by omega) hbytes)
      have hgr := grown cap (by omega) (Value.ownBlock (.slice (some ⟨g, 0, none⟩) n cap))
      exact ⟨_, _, hr, hgr.1, hgr.2, .inr (fun k hk => by simp [Value.ownBlock] at hk; omega)⟩
end
theorem wpList_append_src {P : Program} {w : World} {ops : Array Oper} {rest : List Oper} {o : Oper} {a : Act} {Q : Exit → Act → World → Prop} (hgd : o.guard = none) (s x : Operand) (t tx : TypeId)
    (ho : o.op = .call { callee := .builtin .append, args := #[s, x], argTypes := #[t, tx] })
    (base : Nat) (e : TypeId) (i : TypeInfo) (z : Value) (size bytes : Nat) (ht : P.underlying t = some (.slice e)) (hi : P.info? e = some i) (hz : i.zero = some z)
    (hsize : i.size = size) (hby : i.bytes = bytes) (hzs : z.cells.size = size)
    (v xv : Value) (n : Nat) (xs : List Value) (m : Nat) (news : List Value) (hs : a.eval s = v) (hx : a.eval x = xv) (hown : w.ownsRow base e size v n xs) (hsrc : Src P size tx xv m news w)
    (h63 : n + m ≤ maxLen) (hbytes : (n + m) * bytes ≤ 140737488355328) (hbase : base ≤ w.heap.size)
    (h : ∀ v' w', w'.ownsRow base e size v' (n + m) (xs ++ news) → w.grownBy w' v.ownBlock → Sn w v v' → wpList P ops Q rest (a.put o.dst v') w') : wpList P ops Q (o :: rest) a w := by
  refine wpList_plain hgd fun K hK => ?_
  obtain ⟨v', w', hr, h2, h3, h4⟩ := run_append_own_src (P := P) w base t tx o.type e i z size bytes ht hi hz hsize hby hzs v n xs hown xv m news hsrc h63 hbytes hbase
  unfold Oper.wp execOp
  simp only [ho, resolve, invoke, builtin, Sem.run_bind, Sem.run_pure, Result.andThen_ok, List.map_toArray, List.map_cons, List.map_nil, hs, hx, hr]
  exact hK _ _ (h v' w' h2 h3 h4)
/-- Bytes, as cells. -/
def bc (l : List UInt8) : List Value := l.map fun b => Value.int .u8 b.toNat
theorem bc_length (l : List UInt8) : (bc l).length = l.length := by simp [bc]
theorem bc_append (l m : List UInt8) : bc (l ++ m) = bc l ++ bc m := by simp [bc]
theorem bc_one {l : List UInt8} : ∀ u ∈ bc l, u.oneCell' = true := fun u hu => by obtain ⟨_, _, rfl⟩ := List.mem_map.1 hu; rfl
theorem byteCells_bc (s : ByteArray) : byteCells s = bc s.data.toList := rfl
theorem bc_take (l : List UInt8) (k : Nat) : (bc l).take k = bc (l.take k) := by simp [bc, List.map_take]
theorem bc_drop (l : List UInt8) (k : Nat) : (bc l).drop k = bc (l.drop k) := by simp [bc, List.map_drop]
/-- A slice of bytes of a call's own. -/
def Ow (w : World) (base : Nat) (v : Value) (l : List UInt8) : Prop := w.ownsRow base 5 1 v l.length (bc l)
theorem Ow.nil (w : World) (base : Nat) : Ow w base (.slice none 0 0) [] := World.ownsRow_nil w base 5 1
theorem Ow.kept {w w' : World} {base : Nat} {v : Value} {l : List UInt8} {row : Option Nat} (h : Ow w base v l) (hg : w.grownBy w' row) (hne : v.ownBlock = none ∨ v.ownBlock ≠ row) : Ow w' base v l := World.ownsRow.kept h hg hne
theorem Ow.shape {w : World} {base : Nat} {v : Value} {l : List UInt8} (h : Ow w base v l) : ∃ ad cap, v = .slice ad l.length cap ∧ l.length ≤ cap := by
  rcases h.2 with ⟨rfl, hz⟩ | ⟨g, cap, cur, rfl, _, _, hc, _⟩
  · exact ⟨none, 0, by rw [hz], by omega⟩
  · exact ⟨_, cap, rfl, hc⟩
theorem Ow.ge {w : World} {base : Nat} {v : Value} {l : List UInt8} (h : Ow w base v l) {k : Nat} (hk : v.ownBlock = some k) : base ≤ k ∧ k < w.heap.size := World.ownsRow.lt h k hk
theorem Ow.below {w w' : World} {base B : Nat} {v : Value} {l : List UInt8} (h : Ow w base v l) (hb : Below B w w') (hB : ∀ k, v.ownBlock = some k → k < B) : Ow w' base v l := by
  refine ⟨h.1, ?_⟩
  rcases h.2 with h2 | ⟨g, cap, cur, rfl, h3, h4, h5⟩
  · exact .inl h2
  · exact .inr ⟨g, cap, cur, rfl, h3, (hb.block g (hB g rfl)).trans h4, h5⟩
theorem grown_trans {w w1 w2 : World} {r r' : Option Nat} (h : w.grownBy w1 r) (h' : w1.grownBy w2 r') (hr : r' = r ∨ ∀ k, r' = some k → w.heap.size ≤ k) : w.grownBy w2 r := by
  refine ⟨h'.os.trans h.os, h'.tape.trans h.tape, h'.output.trans h.output, Nat.le_trans h.size h'.size, fun k hk hne => ?_⟩
  refine (h'.block k (Nat.lt_of_lt_of_le hk h.size) ?_).trans (h.block k hk hne)
  rcases hr with rfl | hr
  · exact hne
  · intro e; have := hr k e.symm; omega
theorem grown_of_below {w w1 : World} {r : Option Nat} (h : Below w.heap.size w w1) : w.grownBy w1 r := ⟨h.os, h.tape, h.output, h.size, fun k hk _ => h.block k hk⟩
theorem grown_below {w w1 : World} {r : Option Nat} {B : Nat} (h : w.grownBy w1 r) (hB : B ≤ w.heap.size) (hr : ∀ k, r = some k → B ≤ k) : Below B w w1 := ⟨h.os, h.tape, h.output, h.size, fun k hk => h.block k (by omega) (fun e => by have := hr k e.symm; omega)⟩
theorem Sn.refl (w : World) (v : Value) : Sn w v v := .inl rfl
theorem Sn.trans {w w1 : World} {v v1 v2 : Value} (h : Sn w v v1) (h' : Sn w1 v1 v2) (hs : w.heap.size ≤ w1.heap.size) : Sn w v v2 := by
  rcases h' with e | h'
  · rcases h with e2 | h
    · exact .inl (e.trans e2)
    · exact .inr (fun k hk => h k (by rw [← e]; exact hk))
  · exact .inr (fun k hk => Nat.le_trans hs (h' k hk))
theorem Sn.row {w : World} {v v' : Value} (h : Sn w v v') : v'.ownBlock = v.ownBlock ∨ ∀ k, v'.ownBlock = some k → w.heap.size ≤ k := h
/-- Such a slice as what is appended. -/
theorem Ow.src {w : World} {base : Nat} {v : Value} {l : List UInt8} {tx : TypeId} {e' : TypeId} (h : Ow w base v l) (hk : Try.prog.underlying tx = some (.slice e')) : Src Try.prog 1 tx v l.length (bc l) w := by
  have hc := h
  rcases h.2 with ⟨rfl, hz⟩ | ⟨g, cap, cur, rfl, _⟩
  · have : l = [] := List.length_eq_zero_iff.1 hz
    subst this
    exact Src.ofNil w hk 0
  · exact Src.ofSlice w hk ⟨g, 0, none⟩ l.length cap (bc l) (by rw [bc_length, Nat.mul_one]) (World.ownsRow.cells hc (g := g) rfl) bc_one
theorem str_of (l : List UInt8) : strOfNums (l.map fun b => (b.toNat : Int)) = ⟨l.toArray⟩ := by
  unfold strOfNums
  congr 2
  rw [List.map_map]
  conv => rhs; rw [← List.map_id l]
  apply List.map_congr_left
  intro b _
  simp
/-- string(b), of such a slice. -/
theorem Ow.string {w : World} {base : Nat} {v : Value} {l : List UInt8} (h : Ow w base v l) : (convert 58 9 v).run Try.prog w = .ok (.string ⟨l.toArray⟩) w := by
  have hc := h
  rcases h.2 with ⟨rfl, hz⟩ | ⟨g, cap, cur, rfl, _⟩
  · have : l = [] := List.length_eq_zero_iff.1 hz
    subst this
    exact run_convert_bytes_nil (P := Try.prog) w 58 5 Try.underlying58 Try.underlying5 0 0 9 Try.underlying9
  · have e := run_convert_bytes_arg (P := Try.prog) w 58 5 Try.underlying58 Try.underlying5 g 0 l.length cap (l.map fun b => (b.toNat : Int)) (by simp) (fun i hi => by
      have := World.ownsRow.cells hc (g := g) rfl i (Value.int .u8 (l[i].toNat : Int)) (by simp [bc, hi])
      have ha : (⟨g, 0, none⟩ : Addr).add i = ⟨g, 0 + i, none⟩ := by unfold Addr.add; split <;> simp_all
      rw [ha] at this
      rw [this]
      simp [hi]) 9 Try.underlying9
    rw [str_of] at e
    exact e
end Go.Proofs.Ytjbhegakgdcldaa
end
section
set_option linter.unusedSimpArgs false
set_option linter.unusedVariables false
namespace Go.Proofs.Ytjbhegakgdcldaa
open Go.RowKit

/-! Disks: what they are, and how the program's lies in memory. -/
structure Ch where
  cut : Bool
  pos : Nat
  bs : List UInt8
structure Ds where
  now : Nat → List UInt8
  safe : Nat → List UInt8
  chs : Nat → List Ch
  off : Bool
  tO : Nat
  tF : Nat
def upd {α : Type} (f : Nat → α) (i : Nat) (x : α) : Nat → α := fun j => if j = i then x else f j
theorem upd_same {α : Type} (f : Nat → α) (i : Nat) (x : α) : upd f i x i = x := if_pos rfl
theorem upd_other {α : Type} (f : Nat → α) {i j : Nat} (x : α) (h : j ≠ i) : upd f i x j = f j := if_neg h
def pad (r : List UInt8) (n : Nat) : List UInt8 := r ++ List.replicate (n - r.length) 0
def ovr (c : Ch) (r : List UInt8) : List UInt8 := if c.cut = true then r.take c.pos else splice (pad r (c.pos + c.bs.length)) c.pos c.bs
theorem pad_length (r : List UInt8) (n : Nat) : (pad r n).length = max r.length n := by simp [pad]; omega
theorem ovr_cut {c : Ch} (h : c.cut = true) (r : List UInt8) : ovr c r = r.take c.pos := if_pos h
theorem ovr_piece {c : Ch} (h : c.cut = false) (r : List UInt8) : ovr c r = splice (pad r (c.pos + c.bs.length)) c.pos c.bs := if_neg (by rw [h]; simp)
theorem ovr_length {c : Ch} (h : c.cut = false) (r : List UInt8) : (ovr c r).length = max r.length (c.pos + c.bs.length) := by
  rw [ovr_piece h, length_splice _ _ _ (by rw [pad_length]; omega), pad_length]
theorem ovr_le (c : Ch) (r : List UInt8) : (ovr c r).length ≤ max r.length (c.pos + c.bs.length) := by
  cases h : c.cut
  · rw [ovr_length h]; omega
  · rw [ovr_cut h, List.length_take]; omega

/-- A block was turned, and nothing else. -/
structure Turn (w w' : World) (b : Nat) (vs : Array Value) (t : TypeId) : Prop where
  os : w'.os = w.os
  tape : w'.tape = w.tape
  output : w'.output = w.output
  size : w'.heap.size = w.heap.size
  blk : Bk w' b vs t
  other : ∀ k, k ≠ b → w'.heap[k]? = w.heap[k]?
theorem Turn.refl {w : World} {b : Nat} {vs : Array Value} {t : TypeId} (h : Bk w b vs t) : Turn w w b vs t := ⟨rfl, rfl, rfl, rfl, h, fun _ _ => rfl⟩
theorem Turn.set {w : World} {b : Nat} {vs : Array Value} {t : TypeId} (h : Bk w b vs t) (i : Nat) (u : Value) : Turn w (w.setCell ⟨b, i, none⟩ u) b (vs.setIfInBounds i u) t :=
  ⟨rfl, rfl, rfl, by simp, h.set i u rfl, fun k hk => Below.heap_setCell w _ _ k hk⟩
theorem Turn.trans {w w1 w2 : World} {b : Nat} {vs vs' : Array Value} {t t' : TypeId} (h : Turn w w1 b vs t) (h' : Turn w1 w2 b vs' t') : Turn w w2 b vs' t' :=
  ⟨h'.os.trans h.os, h'.tape.trans h.tape, h'.output.trans h.output, h'.size.trans h.size, h'.blk, fun k hk => (h'.other k hk).trans (h.other k hk)⟩

/-- What a call does to memory whose blocks have owners: what nobody owns stays; what is new is somebody's, or nobody's. -/
structure Fp (O : Nat → Nat) (w : World) (O' : Nat → Nat) (w' : World) : Prop where
  os : w'.os = w.os
  tape : w'.tape = w.tape
  output : w'.output = w.output
  size : w.heap.size ≤ w'.heap.size
  old : ∀ b, b < w.heap.size → O b = 0 → O' b = 0
  keep : ∀ b, b < w.heap.size → O b = 0 → w'.heap[b]? = w.heap[b]?
  kf : ∀ (k : Nat) (o : Obj), w.heap[k]? = some o → o.isCells = false → w'.heap[k]? = some o
theorem Fp.refl (O : Nat → Nat) (w : World) : Fp O w O w := ⟨rfl, rfl, rfl, Nat.le_refl _, fun _ _ h => h, fun _ _ _ => rfl, fun _ _ h _ => h⟩
theorem Fp.trans {O O1 O2 : Nat → Nat} {w w1 w2 : World} (h : Fp O w O1 w1) (h' : Fp O1 w1 O2 w2) : Fp O w O2 w2 :=
  ⟨h'.os.trans h.os, h'.tape.trans h.tape, h'.output.trans h.output, Nat.le_trans h.size h'.size, fun b hb ho => h'.old b (Nat.lt_of_lt_of_le hb h.size) (h.old b hb ho),
   fun b hb ho => (h'.keep b (Nat.lt_of_lt_of_le hb h.size) (h.old b hb ho)).trans (h.keep b hb ho), fun k o h1 h2 => h'.kf k o (h.kf k o h1 h2) h2⟩
theorem Fp.of_below (O : Nat → Nat) {w w' : World} (h : Below w.heap.size w w') : Fp O w O w' := ⟨h.os, h.tape, h.output, h.size, fun _ _ h => h, fun b hb _ => h.block b hb, fun k o h1 _ => (h.block k (Array.getElem?_eq_some_iff.1 h1).1).trans h1⟩
theorem Fp.of_turn {O : Nat → Nat} {w w' : World} {b : Nat} {vs vs0 : Array Value} {t t0 : TypeId} (h : Turn w w' b vs t) (h0 : Bk w b vs0 t0) (ho : O b ≠ 0) : Fp O w O w' :=
  ⟨h.os, h.tape, h.output, Nat.le_of_eq h.size.symm, fun _ _ h => h, fun k _ hk => h.other k (fun e => ho (e ▸ hk)), fun k o h1 h2 => by
    by_cases e : k = b
    · subst e; rw [show w.heap[k]? = _ from h0] at h1; simp at h1; subst h1; simp [Obj.isCells] at h2
    · exact (h.other k e).trans h1⟩
theorem Fp.keepsFrom {O O' : Nat → Nat} {w w' : World} (h : Fp O w O' w') (B : Nat) : KeepsFrom B w w' := ⟨h.size, fun k o _ h1 h2 => h.kf k o h1 h2⟩
/-- New owners for what is new. -/
theorem Fp.re {O O' O2 : Nat → Nat} {w w' : World} (h : Fp O w O' w') (h2 : ∀ b, b < w.heap.size → O2 b = O' b) : Fp O w O2 w' := ⟨h.os, h.tape, h.output, h.size, fun b hb ho => (h2 b hb).trans (h.old b hb ho), h.keep, h.kf⟩
theorem Fp.cell {O O' : Nat → Nat} {w w' : World} (h : Fp O w O' w') {a : Addr} {v : Value} (hc : w.cell? a = some v) (ho : O a.block = 0) : w'.cell? a = some v := by
  have hl := World.block_lt_of_cell? w a hc
  rw [World.cell?_of_block (h.keep a.block hl ho)]
  exact hc
theorem Fp.bk {O O' : Nat → Nat} {w w' : World} {b : Nat} {vs : Array Value} {t : TypeId} (h : Fp O w O' w') (hb : Bk w b vs t) (ho : O b = 0) : Bk w' b vs t := (h.keep b hb.lt ho).trans hb

theorem Ow.same {w w' : World} {base : Nat} {v : Value} {l : List UInt8} (h : Ow w base v l) (hs : ∀ b, v.ownBlock = some b → w'.heap[b]? = w.heap[b]?) : Ow w' base v l := by
  refine ⟨h.1, ?_⟩
  rcases h.2 with h2 | ⟨g, cap, cur, rfl, h3, h4, h5⟩
  · exact .inl h2
  · exact .inr ⟨g, cap, cur, rfl, h3, (hs g rfl).trans h4, h5⟩
theorem Ow.lt {w : World} {base : Nat} {v : Value} {l : List UInt8} (h : Ow w base v l) : ∀ b, v.ownBlock = some b → b < w.heap.size := fun b hb => (h.ge hb).2
theorem Ow.bytes {w : World} {base : Nat} {v : Value} {l : List UInt8} (h : Ow w base v l) : ∀ b, v.ownBlock = some b → ∃ cur, w.heap[b]? = some (.cells cur 5) := fun b hb => by
  rcases h.2 with ⟨rfl, _⟩ | ⟨g, cap, cur, rfl, h3, h4, h5⟩
  · simp [Value.ownBlock] at hb
  · simp [Value.ownBlock] at hb; subst hb; exact ⟨cur, h4⟩
/-- Changes, one behind the other. -/
def ccells (p : Ch × Value) : List Value := [.bool p.1.cut, .int .i64 (p.1.pos : Int), p.2]
theorem ccells_length (ps : List (Ch × Value)) : (ps.flatMap ccells).length = ps.length * 3 := by
  induction ps with
  | nil => rfl
  | cons p l ih => simp only [List.flatMap_cons, List.length_append, ih, List.length_cons]; simp [ccells]; omega
def Cv (w : World) (O : Nat → Nat) (v : Value) (l : List Ch) : Prop :=
  ∃ ps : List (Ch × Value), ps.map Prod.fst = l ∧ w.ownsRow 0 128 3 v ps.length (ps.flatMap ccells) ∧ ∀ p ∈ ps, Ow w 0 p.2 p.1.bs ∧ ∀ b, p.2.ownBlock = some b → O b = 25
theorem ownsRow_same {w w' : World} {base : Nat} {e : TypeId} {size n : Nat} {v : Value} {xs : List Value} (h : w.ownsRow base e size v n xs) (hs : ∀ b, v.ownBlock = some b → w'.heap[b]? = w.heap[b]?) : w'.ownsRow base e size v n xs := by
  refine ⟨h.1, ?_⟩
  rcases h.2 with h2 | ⟨g, cap, cur, rfl, h3, h4, h5⟩
  · exact .inl h2
  · exact .inr ⟨g, cap, cur, rfl, h3, (hs g rfl).trans h4, h5⟩
theorem Cv.same {w w' : World} {O O' : Nat → Nat} {v : Value} {l : List Ch} (h : Cv w O v l) (hs : ∀ b, v.ownBlock = some b → w'.heap[b]? = w.heap[b]?) (hb : ∀ b, O b = 25 → b < w.heap.size → w'.heap[b]? = w.heap[b]? ∧ O' b = 25) : Cv w' O' v l := by
  obtain ⟨ps, h1, h2, h3⟩ := h
  exact ⟨ps, h1, ownsRow_same h2 hs, fun p hp => ⟨(h3 p hp).1.same fun b e => (hb b ((h3 p hp).2 b e) ((h3 p hp).1.lt b e)).1, fun b e => (hb b ((h3 p hp).2 b e) ((h3 p hp).1.lt b e)).2⟩⟩
theorem Cv.lt {w : World} {O : Nat → Nat} {v : Value} {l : List Ch} (h : Cv w O v l) : ∀ b, v.ownBlock = some b → b < w.heap.size := fun b hb => by
  obtain ⟨ps, h1, h2, h3⟩ := h
  exact (h2.lt b hb).2
theorem Cv.nil (w : World) (O : Nat → Nat) : Cv w O (.slice none 0 0) [] := ⟨[], rfl, World.ownsRow_nil w 0 _ 3, fun p hp => by cases hp⟩

/-- The program's disk: its block's cells. -/
def dkc (nv sv cv : Nat → Value) (off : Bool) (tO tF : Nat) : Array Value :=
  #[nv 0, sv 0, cv 0, nv 1, sv 1, cv 1, nv 2, sv 2, cv 2, nv 3, sv 3, cv 3, nv 4, sv 4, cv 4, nv 5, sv 5, cv 5, nv 6, sv 6, cv 6, nv 7, sv 7, cv 7, .bool off, .int .i64 (tO : Int), .int .i64 (tF : Int)]
section
variable (nv sv cv : Nat → Value) (off : Bool) (tO tF : Nat)
theorem lt8 {i : Nat} (h : i < 8) : i = 0 ∨ i = 1 ∨ i = 2 ∨ i = 3 ∨ i = 4 ∨ i = 5 ∨ i = 6 ∨ i = 7 := by omega
theorem dkc_now {i : Nat} (h : i < 8) : (dkc nv sv cv off tO tF)[i * 3]? = some (nv i) := by rcases lt8 h with rfl | rfl | rfl | rfl | rfl | rfl | rfl | rfl <;> rfl
theorem dkc_safe {i : Nat} (h : i < 8) : (dkc nv sv cv off tO tF)[i * 3 + 1]? = some (sv i) := by rcases lt8 h with rfl | rfl | rfl | rfl | rfl | rfl | rfl | rfl <;> rfl
theorem dkc_chs {i : Nat} (h : i < 8) : (dkc nv sv cv off tO tF)[i * 3 + 2]? = some (cv i) := by rcases lt8 h with rfl | rfl | rfl | rfl | rfl | rfl | rfl | rfl <;> rfl
theorem dkc_off : (dkc nv sv cv off tO tF)[24]? = some (.bool off) := rfl
theorem dkc_tO : (dkc nv sv cv off tO tF)[25]? = some (.int .i64 tO) := rfl
theorem dkc_tF : (dkc nv sv cv off tO tF)[26]? = some (.int .i64 tF) := rfl
theorem dkc_setN {i : Nat} (h : i < 8) (v : Value) : (dkc nv sv cv off tO tF).setIfInBounds (i * 3) v = dkc (upd nv i v) sv cv off tO tF := by rcases lt8 h with rfl | rfl | rfl | rfl | rfl | rfl | rfl | rfl <;> rfl
theorem dkc_setS {i : Nat} (h : i < 8) (v : Value) : (dkc nv sv cv off tO tF).setIfInBounds (i * 3 + 1) v = dkc nv (upd sv i v) cv off tO tF := by rcases lt8 h with rfl | rfl | rfl | rfl | rfl | rfl | rfl | rfl <;> rfl
theorem dkc_setC {i : Nat} (h : i < 8) (v : Value) : (dkc nv sv cv off tO tF).setIfInBounds (i * 3 + 2) v = dkc nv sv (upd cv i v) off tO tF := by rcases lt8 h with rfl | rfl | rfl | rfl | rfl | rfl | rfl | rfl <;> rfl
theorem dkc_setOff (b : Bool) : (dkc nv sv cv off tO tF).setIfInBounds 24 (.bool b) = dkc nv sv cv b tO tF := rfl
theorem dkc_setO (n : Nat) : (dkc nv sv cv off tO tF).setIfInBounds 25 (.int .i64 n) = dkc nv sv cv off n tF := rfl
theorem dkc_setF (n : Nat) : (dkc nv sv cv off tO tF).setIfInBounds 26 (.int .i64 n) = dkc nv sv cv off tO n := rfl
end
/-- The program's disk at a block, with who owns what: 2 i + 1 what file i is now, 2 i + 2 what of it is safe, 17 + i its changes, 25 their bytes, 26 the disk. -/
structure DK (w : World) (O : Nat → Nat) (d : Nat) (D : Ds) (nv sv cv : Nat → Value) : Prop where
  blk : Bk w d (dkc nv sv cv D.off D.tO D.tF) 107
  now : ∀ i, i < 8 → Ow w 0 (nv i) (D.now i)
  safe : ∀ i, i < 8 → Ow w 0 (sv i) (D.safe i)
  chs : ∀ i, i < 8 → Cv w O (cv i) (D.chs i)
  tn : ∀ i, i < 8 → ∀ b, (nv i).ownBlock = some b → O b = 2 * i + 1
  ts : ∀ i, i < 8 → ∀ b, (sv i).ownBlock = some b → O b = 2 * i + 2
  tc : ∀ i, i < 8 → ∀ b, (cv i).ownBlock = some b → O b = 17 + i
  td : O d = 26
  cel : ∀ b, O b ≠ 0 → ∃ o, w.heap[b]? = some o ∧ o.isCells = true
  bO : D.tO ≤ 9223372036854775807
  bF : D.tF ≤ 9223372036854775807
theorem DK.lt {w : World} {O : Nat → Nat} {d : Nat} {D : Ds} {nv sv cv : Nat → Value} (h : DK w O d D nv sv cv) : ∀ b, O b ≠ 0 → b < w.heap.size := fun b hb => by
  obtain ⟨o, e, _⟩ := h.cel b hb
  exact (Array.getElem?_eq_some_iff.1 e).1
theorem DK.frame {w w' : World} {O : Nat → Nat} {d : Nat} {D : Ds} {nv sv cv : Nat → Value} (h : DK w O d D nv sv cv) (hs : w.heap.size ≤ w'.heap.size) (hk : ∀ b, O b ≠ 0 → w'.heap[b]? = w.heap[b]?) : DK w' O d D nv sv cv :=
  ⟨(hk d (by rw [h.td]; omega)).trans h.blk, fun i hi => (h.now i hi).same fun b e => hk b (by rw [h.tn i hi b e]; omega), fun i hi => (h.safe i hi).same fun b e => hk b (by rw [h.ts i hi b e]; omega),
   fun i hi => (h.chs i hi).same (fun b e => hk b (by rw [h.tc i hi b e]; omega)) (fun b e _ => ⟨hk b (by rw [e]; omega), e⟩), h.tn, h.ts, h.tc, h.td, fun b hb => by rw [hk b hb]; exact h.cel b hb, h.bO, h.bF⟩
/-- Owners of more. -/
theorem DK.retag {w : World} {O O' : Nat → Nat} {d : Nat} {D : Ds} {nv sv cv : Nat → Value} (h : DK w O d D nv sv cv) (h1 : ∀ b, O b ≠ 0 → O' b = O b) (h2 : ∀ b, O' b ≠ 0 → ∃ o, w.heap[b]? = some o ∧ o.isCells = true) : DK w O' d D nv sv cv :=
  ⟨h.blk, h.now, h.safe, fun i hi => (h.chs i hi).same (fun _ _ => rfl) (fun b e _ => ⟨rfl, by rw [h1 b (by rw [e]; omega), e]⟩), fun i hi b e => by rw [h1 b (by rw [h.tn i hi b e]; omega), h.tn i hi b e], fun i hi b e => by rw [h1 b (by rw [h.ts i hi b e]; omega), h.ts i hi b e],
   fun i hi b e => by rw [h1 b (by rw [h.tc i hi b e]; omega), h.tc i hi b e], by rw [h1 d (by rw [h.td]; omega), h.td], h2, h.bO, h.bF⟩
theorem DK.below {w w' : World} {O : Nat → Nat} {d : Nat} {D : Ds} {nv sv cv : Nat → Value} (h : DK w O d D nv sv cv) (hb : Below w.heap.size w w') : DK w' O d D nv sv cv :=
  h.frame hb.size fun b hn => hb.block b (h.lt b hn)
/-- Its own block's numbers and marks turned. -/
theorem DK.turn {w w' : World} {O : Nat → Nat} {d : Nat} {D : Ds} {nv sv cv : Nat → Value} (h : DK w O d D nv sv cv) {off : Bool} {tO tF : Nat} (ht : Turn w w' d (dkc nv sv cv off tO tF) 107) (hO : tO ≤ 9223372036854775807) (hF : tF ≤ 9223372036854775807) :
    DK w' O d { D with off := off, tO := tO, tF := tF } nv sv cv :=
  have ne : ∀ b, O b ≠ 26 → w'.heap[b]? = w.heap[b]? := fun b hb => ht.other b (fun e => hb (e ▸ h.td))
  ⟨ht.blk, fun i hi => (h.now i hi).same fun b e => ne b (by rw [h.tn i hi b e]; omega), fun i hi => (h.safe i hi).same fun b e => ne b (by rw [h.ts i hi b e]; omega),
   fun i hi => (h.chs i hi).same (fun b e => ne b (by rw [h.tc i hi b e]; omega)) (fun b e _ => ⟨ne b (by rw [e]; omega), e⟩), h.tn, h.ts, h.tc, h.td, fun b hb => by
    by_cases e : b = d
    · subst e; exact ⟨_, ht.blk, rfl⟩
    · rw [ht.other b e]; exact h.cel b hb, hO, hF⟩
/-- File i was changed. -/
theorem DK.doStep {w w' : World} {O : Nat → Nat} {d i : Nat} {D : Ds} {nv sv cv : Nat → Value} (h : DK w O d D nv sv cv) (hi : i < 8) {nv' cv' : Value} {r : List UInt8} {l : List Ch}
    (hos : w'.os = w.os) (htp : w'.tape = w.tape) (hout : w'.output = w.output) (hsz : w.heap.size ≤ w'.heap.size) (hblk : Bk w' d (dkc (upd nv i nv') sv (upd cv i cv') D.off D.tO D.tF) 107) (hn : Ow w' 0 nv' r) (sn : Sn w (nv i) nv')
    (hc : ∃ ps : List (Ch × Value), ps.map Prod.fst = l ∧ w'.ownsRow 0 128 3 cv' ps.length (ps.flatMap ccells) ∧ ∀ p ∈ ps, Ow w 0 p.2 p.1.bs ∧ ∀ b, p.2.ownBlock = some b → O b = 25) (sc : Sn w (cv i) cv')
    (hk : ∀ k, k < w.heap.size → k ≠ d → some k ≠ (nv i).ownBlock → some k ≠ (cv i).ownBlock → w'.heap[k]? = w.heap[k]?) :
    ∃ O', DK w' O' d { D with now := upd D.now i r, chs := upd D.chs i l } (upd nv i nv') sv (upd cv i cv') ∧ Fp O w O' w' := by
  have ne : ∀ b, b < w.heap.size → O b ≠ 26 → O b ≠ 2 * i + 1 → O b ≠ 17 + i → w'.heap[b]? = w.heap[b]? := fun b hb h1 h2 h3 => hk b hb (fun e => h1 (e ▸ h.td)) (fun e => h2 (h.tn i hi b e.symm)) (fun e => h3 (h.tc i hi b e.symm))
  have hlc : ∀ b, cv'.ownBlock = some b → ∃ cur, w'.heap[b]? = some (.cells cur 128) := fun b hb => by
    obtain ⟨ps, _, h2, _⟩ := hc
    rcases h2.2 with ⟨rfl, _⟩ | ⟨g, cap, cur, rfl, h3, h4, h5⟩
    · simp [Value.ownBlock] at hb
    · simp [Value.ownBlock] at hb; subst hb; exact ⟨cur, h4⟩
  have apart : ∀ b, cv'.ownBlock = some b → nv'.ownBlock ≠ some b := fun b h1 h2 => by
    obtain ⟨c1, e1⟩ := hlc b h1
    obtain ⟨c2, e2⟩ := hn.bytes b h2
    rw [e1] at e2
    simp at e2
  obtain ⟨O', hO⟩ : ∃ O' : Nat → Nat, O' = fun b => if b < w.heap.size then (if (some b = (nv i).ownBlock ∧ nv'.ownBlock ≠ some b) ∨ (some b = (cv i).ownBlock ∧ cv'.ownBlock ≠ some b) then 0 else O b) else if nv'.ownBlock = some b then 2 * i + 1 else if cv'.ownBlock = some b then 17 + i else 0 := ⟨_, rfl⟩
  have o0 : ∀ b, b < w.heap.size → ¬ ((some b = (nv i).ownBlock ∧ nv'.ownBlock ≠ some b) ∨ (some b = (cv i).ownBlock ∧ cv'.ownBlock ≠ some b)) → O' b = O b := fun b hb hn => by rw [hO]; simp only []; rw [if_pos hb, if_neg hn]
  have o1 : ∀ b, b < w.heap.size → O b ≠ 2 * i + 1 → O b ≠ 17 + i → O' b = O b := fun b hb h1 h2 => o0 b hb (fun h3 => by
    rcases h3 with ⟨e, _⟩ | ⟨e, _⟩
    · exact h1 (h.tn i hi b e.symm)
    · exact h2 (h.tc i hi b e.symm))
  have o2 : ∀ b, O b ≠ 0 → O b ≠ 2 * i + 1 → O b ≠ 17 + i → O' b = O b := fun b hb => o1 b (h.lt b hb)
  refine ⟨O', ⟨hblk, fun j hj => ?_, fun j hj => (h.safe j hj).same fun b e => ?_, fun j hj => ?_, fun j hj b e => ?_, fun j hj b e => ?_, fun j hj b e => ?_, ?_, fun b hb => ?_, h.bO, h.bF⟩, ⟨hos, htp, hout, hsz, fun b hb ho => by rw [o1 b hb (by omega) (by omega)]; exact ho, fun b hb ho => ne b hb (by omega) (by omega) (by omega), fun k o h1 h2 => ?_⟩⟩
  · by_cases e : j = i
    · subst e; simp only [upd_same]; exact hn
    · simp only [upd_other _ _ e]
      refine (h.now j hj).same fun b e' => ?_
      have ht := h.tn j hj b e'
      exact ne b (h.lt b (by omega)) (by omega) (by omega) (by omega)
  · have ht := h.ts j hj b e
    exact ne b (h.lt b (by omega)) (by omega) (by omega) (by omega)
  · have hb25 : ∀ b, O b = 25 → b < w.heap.size → w'.heap[b]? = w.heap[b]? ∧ O' b = 25 := fun b e hb => ⟨ne b hb (by omega) (by omega) (by omega), by rw [o1 b hb (by omega) (by omega)]; exact e⟩
    by_cases e : j = i
    · subst e
      simp only [upd_same]
      obtain ⟨ps, h1, h2, h3⟩ := hc
      exact ⟨ps, h1, h2, fun p hp => ⟨(h3 p hp).1.same fun b e => (hb25 b ((h3 p hp).2 b e) ((h3 p hp).1.lt b e)).1, fun b e => (hb25 b ((h3 p hp).2 b e) ((h3 p hp).1.lt b e)).2⟩⟩
    · simp only [upd_other _ _ e]
      refine (h.chs j hj).same (fun b e' => ?_) hb25
      have ht := h.tc j hj b e'
      exact ne b (h.lt b (by omega)) (by omega) (by omega) (by omega)
  · by_cases e' : j = i
    · subst e'
      simp only [upd_same] at e
      rcases sn with h1 | h1
      · have ht := h.tn j hj b (h1 ▸ e)
        rw [o0 b (h.lt b (by omega)) (fun h3 => by
          rcases h3 with ⟨_, e2⟩ | ⟨e2, _⟩
          · exact e2 e
          · have := h.tc j hj b e2.symm; omega)]
        exact ht
      · rw [hO]; simp only []; rw [if_neg (by have := h1 b e; omega), if_pos e]
    · simp only [upd_other _ _ e'] at e
      have ht := h.tn j hj b e
      rw [o2 b (by omega) (by omega) (by omega)]; exact ht
  · have ht := h.ts j hj b e
    rw [o2 b (by omega) (by omega) (by omega)]; exact ht
  · by_cases e' : j = i
    · subst e'
      simp only [upd_same] at e
      rcases sc with h1 | h1
      · have ht := h.tc j hj b (h1 ▸ e)
        rw [o0 b (h.lt b (by omega)) (fun h3 => by
          rcases h3 with ⟨e2, _⟩ | ⟨_, e2⟩
          · have := h.tn j hj b e2.symm; omega
          · exact e2 e)]
        exact ht
      · rw [hO]; simp only []; rw [if_neg (by have := h1 b e; omega), if_neg (apart b e), if_pos e]
    · simp only [upd_other _ _ e'] at e
      have ht := h.tc j hj b e
      rw [o2 b (by omega) (by omega) (by omega)]; exact ht
  · have ht := h.td
    rw [o2 d (by omega) (by omega) (by omega)]; exact ht
  · rw [hO] at hb
    simp only [] at hb
    by_cases e : b < w.heap.size
    · rw [if_pos e] at hb
      by_cases e1 : nv'.ownBlock = some b
      · obtain ⟨c, e2⟩ := hn.bytes b e1; exact ⟨_, e2, rfl⟩
      · by_cases e2 : cv'.ownBlock = some b
        · obtain ⟨c, e3⟩ := hlc b e2; exact ⟨_, e3, rfl⟩
        · by_cases e3 : (some b = (nv i).ownBlock ∧ nv'.ownBlock ≠ some b) ∨ (some b = (cv i).ownBlock ∧ cv'.ownBlock ≠ some b)
          · rw [if_pos e3] at hb; exact absurd rfl hb
          · rw [if_neg e3] at hb
            by_cases e4 : b = d
            · subst e4; exact ⟨_, hblk, rfl⟩
            · rw [hk b e e4 (fun e5 => e3 (.inl ⟨e5, e1⟩)) (fun e5 => e3 (.inr ⟨e5, e2⟩))]
              exact h.cel b hb
    · rw [if_neg e] at hb
      by_cases e1 : nv'.ownBlock = some b
      · obtain ⟨c, e2⟩ := hn.bytes b e1; exact ⟨_, e2, rfl⟩
      · rw [if_neg e1] at hb
        by_cases e2 : cv'.ownBlock = some b
        · obtain ⟨c, e3⟩ := hlc b e2; exact ⟨_, e3, rfl⟩
        · rw [if_neg e2] at hb; exact absurd rfl hb
  · have hkl : k < w.heap.size := (Array.getElem?_eq_some_iff.1 h1).1
    have nc : ∀ c t, w.heap[k]? ≠ some (.cells c t) := fun c t e => by rw [e] at h1; simp at h1; subst h1; simp [Obj.isCells] at h2
    rw [← h1]
    refine hk k hkl (fun e => ?_) (fun e => ?_) (fun e => ?_)
    · subst e; exact nc _ _ h.blk
    · obtain ⟨c, e2⟩ := (h.now i hi).bytes k e.symm; exact nc _ _ e2
    · obtain ⟨ps, _, g2, _⟩ := h.chs i hi
      rcases g2.2 with ⟨g3, _⟩ | ⟨g, cap, cur, g3, _, g4, _⟩
      · rw [g3] at e; simp [Value.ownBlock] at e
      · rw [g3] at e; simp [Value.ownBlock] at e; subst e; exact nc _ _ g4
theorem DK.c24 {w : World} {O : Nat → Nat} {d : Nat} {D : Ds} {nv sv cv : Nat → Value} (h : DK w O d D nv sv cv) : w.cell? ⟨d, 24, none⟩ = some (.bool D.off) := (h.blk.cell 24).trans (dkc_off ..)
theorem DK.fz {w : World} {O : Nat → Nat} {d : Nat} {D : Ds} {nv sv cv : Nat → Value} (h : DK w O d D nv sv cv) (i : Nat) : w.frozen? ⟨d, i, none⟩ = false := h.blk.frozen i
end Go.Proofs.Ytjbhegakgdcldaa
end
section
set_option linter.unusedSimpArgs false
set_option linter.unusedVariables false
namespace Go.Proofs.Ytjbhegakgdcldaa
open Go.RowKit

/-! due, find, findToChange. -/
set_option maxRecDepth 100000 in
set_option maxHeartbeats 1000000 in
theorem due (w : World) (b o n : Nat) (vs : Array Value) (t : TypeId) (h : Bk w b vs t) (hv : vs[o]? = some (.int .i64 (n : Int))) (hn : n ≤ 9223372036854775807) :
    Calls Try.prog 96 #[.pointer (some ⟨b, o, none⟩)] w fun e w' => e = .returned (.bool (decide (n = 1))) ∧ Turn w w' b (vs.setIfInBounds o (.int .i64 ((n - 1 : Nat) : Int))) t := by
  have hc := (h.cell o).trans hv
  have hf := h.frozen o
  have hlt := h.lt
  have HB : Hid (Bk w b vs t) := h
  have hos : o < vs.size := (Array.getElem?_eq_some_iff.1 hv).1
  clear h
  by_cases h0 : n = 0
  · subst h0
    go_enter Try.func96, Try.ntmps96
    go_wp2
    go_ret
    refine ⟨rfl, ?_⟩
    have e : vs.setIfInBounds o (.int .i64 ((0 - 1 : Nat) : Int)) = vs := by
      apply Array.ext'
      rw [Array.toList_setIfInBounds]
      apply List.ext_getElem?
      intro i
      rw [List.getElem?_set]
      split
      · next e => subst e; rw [if_pos (by simpa using hos), Array.getElem?_toList, hv]
      · rfl
    rw [e]
    exact Turn.refl HB.out
  · have h1 : ((n : Int) == 0) = false := by rw [beq_eq_false_iff_ne]; omega
    have h2 : IntKind.i64.wrap ((n : Int) - 1) = ((n - 1 : Nat) : Int) := by
      rw [IntWalk.i64_in _ (by omega)]; omega
    go_enter Try.func96, Try.ntmps96
    go_wp2
    go_ret
    refine ⟨?_, Turn.set HB.out o _⟩
    show Ending.returned (Value.bool (((n - 1 : Nat) : Int) == 0)) = .returned (Value.bool (decide (n = 1)))
    congr 2
    rw [Bool.eq_iff_iff]
    simp
    omega
/-- The error of a call of a file that does not count. -/
def fndE (off : Bool) (f : Int) : Int := if off = true then 13 else if f < 0 ∨ 8 ≤ f then 3 else 0
def fndP (d : Nat) (off : Bool) (f : Int) : Value := if fndE off f = 0 then .pointer (some ⟨d, f.toNat * 3, none⟩) else .pointer none
set_option maxRecDepth 100000 in
set_option maxHeartbeats 1000000 in
theorem find (w : World) (d : Nat) (off : Bool) (f : Int) (hc : w.cell? ⟨d, 24, none⟩ = some (.bool off)) (hd : d < w.heap.size) :
    Calls Try.prog 63 #[.pointer (some ⟨d, 0, none⟩), .int .i64 f] w fun e w' => e = .returned (.tuple #[fndP d off f, .int .i64 (fndE off f)]) ∧ w' = w := by
  cases off with
  | true =>
    go_enter Try.func63, Try.ntmps63
    go_wp2
    go_ret2
    exact ⟨rfl, rfl⟩
  | false =>
    by_cases h : f < 0
    · have e : fndE false f = 3 := by unfold fndE; rw [if_neg (by simp), if_pos (.inl h)]
      have e2 : fndP d false f = .pointer none := by unfold fndP; rw [e]; rfl
      rw [e, e2]
      clear e e2
      have h' : decide (f < 0) = true := decide_eq_true h
      go_enter Try.func63, Try.ntmps63
      go_wp2
      go_ret2
      exact ⟨rfl, rfl⟩
    · by_cases h2 : 8 ≤ f
      · have e : fndE false f = 3 := by unfold fndE; rw [if_neg (by simp), if_pos (.inr h2)]
        have e2 : fndP d false f = .pointer none := by unfold fndP; rw [e]; rfl
        rw [e, e2]
        clear e e2
        go_enter Try.func63, Try.ntmps63
        go_wp2
        go_ret2
        exact ⟨rfl, rfl⟩
      · have e : fndE false f = 0 := by unfold fndE; rw [if_neg (by simp), if_neg (by omega)]
        have e2 : fndP d false f = .pointer (some ⟨d, f.toNat * 3, none⟩) := by unfold fndP; rw [e]; rfl
        rw [e, e2]
        clear e e2
        obtain ⟨i, rfl⟩ : ∃ i : Nat, f = i := ⟨f.toNat, by omega⟩
        have h3 : i < 8 := by omega
        go_enter Try.func63, Try.ntmps63
        go_wp2
        go_ret2
        exact ⟨rfl, rfl⟩
/-- A call that counts: the disk behind it, and its error. -/
def cnt (D : Ds) : Ds := { D with off := D.off || decide (D.tO = 1), tO := D.tO - 1, tF := D.tF - 1 }
def cntE (D : Ds) (f : Int) : Int := if (cnt D).off = true then 13 else if D.tF = 1 then 14 else fndE false f
def cntP (d : Nat) (D : Ds) (f : Int) : Value := if cntE D f = 0 then .pointer (some ⟨d, f.toNat * 3, none⟩) else .pointer none
set_option maxRecDepth 100000 in
set_option maxHeartbeats 2000000 in
theorem findC0 (w : World) (O : Nat → Nat) (d : Nat) (D : Ds) (nv sv cv : Nat → Value) (f : Int) (h : DK w O d D nv sv cv) (goes fails : Bool) (hg : goes = decide (D.tO = 1)) (hfl : fails = decide (D.tF = 1)) (pv ev : Value)
    (h1 : goes = true → pv = .pointer none ∧ ev = .int .i64 13) (h2 : goes = false → D.off = true → pv = .pointer none ∧ ev = .int .i64 13) (h3 : goes = false → D.off = false → fails = true → pv = .pointer none ∧ ev = .int .i64 14) (h4 : goes = false → D.off = false → fails = false → pv = fndP d false f ∧ ev = .int .i64 (fndE false f)) :
    Calls Try.prog 91 #[.pointer (some ⟨d, 0, none⟩), .int .i64 f] w fun e w' => e = .returned (.tuple #[pv, ev]) ∧ Turn w w' d (dkc nv sv cv (D.off || goes) (D.tO - 1) (D.tF - 1)) 107 := by
  have HD : Hid (DK w O d D nv sv cv) := h
  have H1 : Hid (∀ w1, Turn w w1 d (dkc nv sv cv D.off D.tO D.tF) 107 → Calls Try.prog 96 #[.pointer (some ⟨d, 25, none⟩)] w1 fun e w2 => e = .returned (.bool goes) ∧ Turn w w2 d (dkc nv sv cv D.off (D.tO - 1) D.tF) 107) := fun w1 h1 => by
    refine (due w1 d 25 D.tO _ _ h1.blk rfl HD.out.bO).mono ?_
    rintro e w2 ⟨rfl, h2⟩
    exact ⟨by rw [hg], h1.trans h2⟩
  have hT0 : Turn w w.drew d (dkc nv sv cv D.off D.tO D.tF) 107 := ⟨rfl, rfl, rfl, rfl, HD.out.blk, fun _ _ => rfl⟩
  have H2 : Hid (∀ w1, Turn w w1 d (dkc nv sv cv D.off (D.tO - 1) D.tF) 107 → Calls Try.prog 96 #[.pointer (some ⟨d, 26, none⟩)] w1 fun e w2 => e = .returned (.bool fails) ∧ Turn w w2 d (dkc nv sv cv D.off (D.tO - 1) (D.tF - 1)) 107) := fun w1 h1 => by
    refine (due w1 d 26 D.tF _ _ h1.blk rfl HD.out.bF).mono ?_
    rintro e w2 ⟨rfl, h2⟩
    exact ⟨by rw [hfl], h1.trans h2⟩
  clear h hg hfl
  generalize D.off = off at *
  generalize D.tO - 1 = t1 at *
  generalize D.tF - 1 = t2 at *
  have H3 : Hid (∀ w1, Turn w w1 d (dkc nv sv cv off t1 t2) 107 → w1.cell? ⟨d, 24, none⟩ = some (.bool off) ∧ w1.frozen? ⟨d, 24, none⟩ = false ∧ d < w1.heap.size) := fun w1 ht => ⟨by have := ht.blk.cell 24; rw [dkc_off] at this; exact this, ht.blk.frozen 24, ht.blk.lt⟩
  have HF : Hid (∀ (o : Bool) W, (W.cell? ⟨d, 24, none⟩ = some (.bool o)) → d < W.heap.size → Calls Try.prog 63 #[.pointer (some ⟨d, 0, none⟩), .int .i64 f] W fun e w' => e = .returned (.tuple #[fndP d o f, .int .i64 (fndE o f)]) ∧ w' = W) := fun o W h h' => find W d _ f h h'
  have HT1 : Hid (fndE true f = 13 ∧ fndP d true f = .pointer none) := by
    have e1 : fndE true f = 13 := if_pos rfl
    refine ⟨e1, ?_⟩
    unfold fndP; rw [e1]; rfl
  cases goes with
  | true =>
    rw [Bool.or_true]
    obtain ⟨rfl, rfl⟩ := h1 rfl
    clear h1 h2 h3 h4
    go_enter Try.func91, Try.ntmps91
    go_upto_region 1 with fail
    refine wp_region_noPanic ?_
    refine wp_region_held_drew (S := fun _ => True) (by kernel_rfl) ?_ (fun hHeld => ?_)
    · ((try dsimp only); try trivial)
    (try dsimp only at hHeld)
    refine wpAnyH_take (i := 0) (oi := ⟨some 8, _, _, _, _, _⟩) (v := ?_) rfl (by kernel_rfl) (by kernel_rfl) (by kernel_rfl) (fun _ _ _ h => h) (Or.inl ⟨by rfl, ?_⟩) (by assumption) ?_
    rotate_left
    · (intro w hSw; (try dsimp only at hSw); go_simp; try (with_reducible rfl))
    (try dsimp only); (try simp only [Act.put, List.setIfInBounds_toArray, List.set_cons_zero, List.set_cons_succ])
    refine wpAnyH_take (i := 1) (oi := ⟨some 9, _, _, _, _, _⟩) (v := ?_) rfl (by kernel_rfl) (by kernel_rfl) (by kernel_rfl) (fun _ _ _ h => h) (Or.inl ⟨by rfl, ?_⟩) (by assumption) ?_
    rotate_left
    · (intro w hSw; (try dsimp only at hSw); go_simp; try (with_reducible rfl))
    (try dsimp only); (try simp only [Act.put, List.setIfInBounds_toArray, List.set_cons_zero, List.set_cons_succ])
    refine wpAnyH_take (i := 2) (oi := ⟨some 10, _, _, _, _, _⟩) (v := ?_) rfl (by kernel_rfl) (by kernel_rfl) (by kernel_rfl) (fun _ _ _ h => h) (Or.inl ⟨by rfl, ?_⟩) (by assumption) ?_
    rotate_left
    · (intro w hSw; (try dsimp only at hSw); go_simp; try (with_reducible rfl))
    (try dsimp only); (try simp only [Act.put, List.setIfInBounds_toArray, List.set_cons_zero, List.set_cons_succ])
    refine wpAnyH_take (i := 4) (oi := ⟨some 12, _, _, _, _, _⟩) (v := ?_) rfl (by kernel_rfl) (by kernel_rfl) (by kernel_rfl) (fun _ _ _ h => h) (Or.inl ⟨by rfl, ?_⟩) (by assumption) ?_
    rotate_left
    · (intro w hSw; (try dsimp only at hSw); go_simp; try (with_reducible rfl))
    (try dsimp only); (try simp only [Act.put, List.setIfInBounds_toArray, List.set_cons_zero, List.set_cons_succ])
    refine wpAnyH_take (i := 5) (oi := ⟨some 13, _, _, _, _, _⟩) (v := ?_) rfl (by kernel_rfl) (by kernel_rfl) (by kernel_rfl) (fun _ _ _ h => h) (Or.inl ⟨by rfl, ?_⟩) (by assumption) ?_
    rotate_left
    · (intro w hSw; (try dsimp only at hSw); go_simp; try (with_reducible rfl))
    (try dsimp only); (try simp only [Act.put, List.setIfInBounds_toArray, List.set_cons_zero, List.set_cons_succ])
    refine wpAnyH_take (i := 6) (oi := ⟨some 14, _, _, _, _, _⟩) (v := ?_) rfl (by kernel_rfl) (by kernel_rfl) (by kernel_rfl) (fun _ _ _ h => h) (Or.inl ⟨by rfl, ?_⟩) (by assumption) ?_
    rotate_left
    · (intro w hSw; (try dsimp only at hSw); go_simp; try (with_reducible rfl))
    (try dsimp only); (try simp only [Act.put, List.setIfInBounds_toArray, List.set_cons_zero, List.set_cons_succ])
    refine wpAnyH_ready (rs := [3]) (by kernel_rfl) (by simp) ?_
    refine AllReadyH.cons (o := ⟨some 11, _, _, _, _, _⟩) rfl (fun K hK => ?_) AllReadyH.nil
    go_simp
    go_wp2_with (go_at_call 96; refine (H1.out _ hT0).mono ?_; rintro e w3 ⟨rfl, hT1⟩)
    refine hK.out _ _ trivial (fun hHeld => ?_)
    clear hK K
    (try dsimp only); (try simp only [Act.put, List.setIfInBounds_toArray, List.set_cons_zero, List.set_cons_succ])
    refine wpAnyH_ready (rs := [7]) (by kernel_rfl) (by simp) ?_
    refine AllReadyH.cons (o := ⟨some 15, _, _, _, _, _⟩) rfl (fun K hK => ?_) AllReadyH.nil
    go_simp
    go_wp2_with (go_at_call 96; refine (H2.out _ hT1).mono ?_; rintro e w7 ⟨rfl, hT2⟩)
    refine hK.out _ _ trivial (fun hHeld => ?_)
    clear hK K
    (try dsimp only); (try simp only [Act.put, List.setIfInBounds_toArray, List.set_cons_zero, List.set_cons_succ])
    refine wpAnyH_take (i := 8) (oi := ⟨some 6, _, _, _, _, _⟩) (v := ?_) rfl (by kernel_rfl) (by kernel_rfl) (by kernel_rfl) (fun _ _ _ h => h) (Or.inl ⟨by rfl, ?_⟩) (by assumption) ?_
    rotate_left
    · (intro w hSw; (try dsimp only at hSw); go_simp; try (with_reducible rfl))
    (try dsimp only); (try simp only [Act.put, List.setIfInBounds_toArray, List.set_cons_zero, List.set_cons_succ])
    refine wpAnyH_take (i := 9) (oi := ⟨some 7, _, _, _, _, _⟩) (v := ?_) rfl (by kernel_rfl) (by kernel_rfl) (by kernel_rfl) (fun _ _ _ h => h) (Or.inl ⟨by rfl, ?_⟩) (by assumption) ?_
    rotate_left
    · (intro w hSw; (try dsimp only at hSw); go_simp; try (with_reducible rfl))
    (try dsimp only); (try simp only [Act.put, List.setIfInBounds_toArray, List.set_cons_zero, List.set_cons_succ])
    refine wpAnyH_done (by kernel_rfl) ?_ _
    refine NoPanic.normal ?_
    have HT : Hid (Turn w w7 d (dkc nv sv cv off t1 t2) 107) := hT2
    obtain ⟨hc, hfz, hl⟩ := H3.out _ hT2
    have hbk := (HT.out.blk.set 24 (.bool true) rfl)
    have ht2 := HT.out.trans (Turn.set HT.out.blk 24 (.bool true))
    rw [dkc_setOff] at hbk ht2
    have hc2 := hbk.cell 24
    rw [dkc_off] at hc2
    have HT2 : Hid (Turn w _ d (dkc nv sv cv true t1 t2) 107) := ht2
    have hl2 := hbk.lt
    clear H1 H2 hT0 hT1 hT2 hHeld hbk ht2
    cases fails
    all_goals
      go_wp2_with (go_at_call 63; refine (HF.out true _ hc2 hl2).mono ?_; rintro e w8 ⟨rfl, rfl⟩)
      rw [HT1.out.1, HT1.out.2]
      go_ret2
      exact ⟨rfl, HT2.out⟩
  | false =>
    rw [Bool.or_false]
    cases off with
    | true =>
      obtain ⟨rfl, rfl⟩ := h2 rfl rfl
      clear h1 h2 h3 h4
      go_enter Try.func91, Try.ntmps91
      go_upto_region 1 with fail
      refine wp_region_noPanic ?_
      refine wp_region_held_drew (S := fun _ => True) (by kernel_rfl) ?_ (fun hHeld => ?_)
      · ((try dsimp only); try trivial)
      (try dsimp only at hHeld)
      refine wpAnyH_take (i := 0) (oi := ⟨some 8, _, _, _, _, _⟩) (v := ?_) rfl (by kernel_rfl) (by kernel_rfl) (by kernel_rfl) (fun _ _ _ h => h) (Or.inl ⟨by rfl, ?_⟩) (by assumption) ?_
      rotate_left
      · (intro w hSw; (try dsimp only at hSw); go_simp; try (with_reducible rfl))
      (try dsimp only); (try simp only [Act.put, List.setIfInBounds_toArray, List.set_cons_zero, List.set_cons_succ])
      refine wpAnyH_take (i := 1) (oi := ⟨some 9, _, _, _, _, _⟩) (v := ?_) rfl (by kernel_rfl) (by kernel_rfl) (by kernel_rfl) (fun _ _ _ h => h) (Or.inl ⟨by rfl, ?_⟩) (by assumption) ?_
      rotate_left
      · (intro w hSw; (try dsimp only at hSw); go_simp; try (with_reducible rfl))
      (try dsimp only); (try simp only [Act.put, List.setIfInBounds_toArray, List.set_cons_zero, List.set_cons_succ])
      refine wpAnyH_take (i := 2) (oi := ⟨some 10, _, _, _, _, _⟩) (v := ?_) rfl (by kernel_rfl) (by kernel_rfl) (by kernel_rfl) (fun _ _ _ h => h) (Or.inl ⟨by rfl, ?_⟩) (by assumption) ?_
      rotate_left
      · (intro w hSw; (try dsimp only at hSw); go_simp; try (with_reducible rfl))
      (try dsimp only); (try simp only [Act.put, List.setIfInBounds_toArray, List.set_cons_zero, List.set_cons_succ])
      refine wpAnyH_take (i := 4) (oi := ⟨some 12, _, _, _, _, _⟩) (v := ?_) rfl (by kernel_rfl) (by kernel_rfl) (by kernel_rfl) (fun _ _ _ h => h) (Or.inl ⟨by rfl, ?_⟩) (by assumption) ?_
      rotate_left
      · (intro w hSw; (try dsimp only at hSw); go_simp; try (with_reducible rfl))
      (try dsimp only); (try simp only [Act.put, List.setIfInBounds_toArray, List.set_cons_zero, List.set_cons_succ])
      refine wpAnyH_take (i := 5) (oi := ⟨some 13, _, _, _, _, _⟩) (v := ?_) rfl (by kernel_rfl) (by kernel_rfl) (by kernel_rfl) (fun _ _ _ h => h) (Or.inl ⟨by rfl, ?_⟩) (by assumption) ?_
      rotate_left
      · (intro w hSw; (try dsimp only at hSw); go_simp; try (with_reducible rfl))
      (try dsimp only); (try simp only [Act.put, List.setIfInBounds_toArray, List.set_cons_zero, List.set_cons_succ])
      refine wpAnyH_take (i := 6) (oi := ⟨some 14, _, _, _, _, _⟩) (v := ?_) rfl (by kernel_rfl) (by kernel_rfl) (by kernel_rfl) (fun _ _ _ h => h) (Or.inl ⟨by rfl, ?_⟩) (by assumption) ?_
      rotate_left
      · (intro w hSw; (try dsimp only at hSw); go_simp; try (with_reducible rfl))
      (try dsimp only); (try simp only [Act.put, List.setIfInBounds_toArray, List.set_cons_zero, List.set_cons_succ])
      refine wpAnyH_ready (rs := [3]) (by kernel_rfl) (by simp) ?_
      refine AllReadyH.cons (o := ⟨some 11, _, _, _, _, _⟩) rfl (fun K hK => ?_) AllReadyH.nil
      go_simp
      go_wp2_with (go_at_call 96; refine (H1.out _ hT0).mono ?_; rintro e w3 ⟨rfl, hT1⟩)
      refine hK.out _ _ trivial (fun hHeld => ?_)
      clear hK K
      (try dsimp only); (try simp only [Act.put, List.setIfInBounds_toArray, List.set_cons_zero, List.set_cons_succ])
      refine wpAnyH_ready (rs := [7]) (by kernel_rfl) (by simp) ?_
      refine AllReadyH.cons (o := ⟨some 15, _, _, _, _, _⟩) rfl (fun K hK => ?_) AllReadyH.nil
      go_simp
      go_wp2_with (go_at_call 96; refine (H2.out _ hT1).mono ?_; rintro e w7 ⟨rfl, hT2⟩)
      refine hK.out _ _ trivial (fun hHeld => ?_)
      clear hK K
      (try dsimp only); (try simp only [Act.put, List.setIfInBounds_toArray, List.set_cons_zero, List.set_cons_succ])
      refine wpAnyH_take (i := 8) (oi := ⟨some 6, _, _, _, _, _⟩) (v := ?_) rfl (by kernel_rfl) (by kernel_rfl) (by kernel_rfl) (fun _ _ _ h => h) (Or.inl ⟨by rfl, ?_⟩) (by assumption) ?_
      rotate_left
      · (intro w hSw; (try dsimp only at hSw); go_simp; try (with_reducible rfl))
      (try dsimp only); (try simp only [Act.put, List.setIfInBounds_toArray, List.set_cons_zero, List.set_cons_succ])
      refine wpAnyH_take (i := 9) (oi := ⟨some 7, _, _, _, _, _⟩) (v := ?_) rfl (by kernel_rfl) (by kernel_rfl) (by kernel_rfl) (fun _ _ _ h => h) (Or.inl ⟨by rfl, ?_⟩) (by assumption) ?_
      rotate_left
      · (intro w hSw; (try dsimp only at hSw); go_simp; try (with_reducible rfl))
      (try dsimp only); (try simp only [Act.put, List.setIfInBounds_toArray, List.set_cons_zero, List.set_cons_succ])
      refine wpAnyH_done (by kernel_rfl) ?_ _
      refine NoPanic.normal ?_
      have HT : Hid (Turn w w7 d (dkc nv sv cv true t1 t2) 107) := hT2
      obtain ⟨hc, hfz, hl⟩ := H3.out _ hT2
      clear H1 H2 hT0 hT1 hT2 hHeld
      cases fails
      all_goals
        go_wp2_with (go_at_call 63; refine (HF.out true _ hc hl).mono ?_; rintro e w8 ⟨rfl, rfl⟩)
        rw [HT1.out.1, HT1.out.2]
        go_ret2
        exact ⟨rfl, HT.out⟩
    | false =>
      cases fails with
      | true =>
        obtain ⟨rfl, rfl⟩ := h3 rfl rfl rfl
        clear h1 h2 h3 h4
        go_enter Try.func91, Try.ntmps91
        go_upto_region 1 with fail
        refine wp_region_noPanic ?_
        refine wp_region_held_drew (S := fun _ => True) (by kernel_rfl) ?_ (fun hHeld => ?_)
        · ((try dsimp only); try trivial)
        (try dsimp only at hHeld)
        refine wpAnyH_take (i := 0) (oi := ⟨some 8, _, _, _, _, _⟩) (v := ?_) rfl (by kernel_rfl) (by kernel_rfl) (by kernel_rfl) (fun _ _ _ h => h) (Or.inl ⟨by rfl, ?_⟩) (by assumption) ?_
        rotate_left
        · (intro w hSw; (try dsimp only at hSw); go_simp; try (with_reducible rfl))
        (try dsimp only); (try simp only [Act.put, List.setIfInBounds_toArray, List.set_cons_zero, List.set_cons_succ])
        refine wpAnyH_take (i := 1) (oi := ⟨some 9, _, _, _, _, _⟩) (v := ?_) rfl (by kernel_rfl) (by kernel_rfl) (by kernel_rfl) (fun _ _ _ h => h) (Or.inl ⟨by rfl, ?_⟩) (by assumption) ?_
        rotate_left
        · (intro w hSw; (try dsimp only at hSw); go_simp; try (with_reducible rfl))
        (try dsimp only); (try simp only [Act.put, List.setIfInBounds_toArray, List.set_cons_zero, List.set_cons_succ])
        refine wpAnyH_take (i := 2) (oi := ⟨some 10, _, _, _, _, _⟩) (v := ?_) rfl (by kernel_rfl) (by kernel_rfl) (by kernel_rfl) (fun _ _ _ h => h) (Or.inl ⟨by rfl, ?_⟩) (by assumption) ?_
        rotate_left
        · (intro w hSw; (try dsimp only at hSw); go_simp; try (with_reducible rfl))
        (try dsimp only); (try simp only [Act.put, List.setIfInBounds_toArray, List.set_cons_zero, List.set_cons_succ])
        refine wpAnyH_take (i := 4) (oi := ⟨some 12, _, _, _, _, _⟩) (v := ?_) rfl (by kernel_rfl) (by kernel_rfl) (by kernel_rfl) (fun _ _ _ h => h) (Or.inl ⟨by rfl, ?_⟩) (by assumption) ?_
        rotate_left
        · (intro w hSw; (try dsimp only at hSw); go_simp; try (with_reducible rfl))
        (try dsimp only); (try simp only [Act.put, List.setIfInBounds_toArray, List.set_cons_zero, List.set_cons_succ])
        refine wpAnyH_take (i := 5) (oi := ⟨some 13, _, _, _, _, _⟩) (v := ?_) rfl (by kernel_rfl) (by kernel_rfl) (by kernel_rfl) (fun _ _ _ h => h) (Or.inl ⟨by rfl, ?_⟩) (by assumption) ?_
        rotate_left
        · (intro w hSw; (try dsimp only at hSw); go_simp; try (with_reducible rfl))
        (try dsimp only); (try simp only [Act.put, List.setIfInBounds_toArray, List.set_cons_zero, List.set_cons_succ])
        refine wpAnyH_take (i := 6) (oi := ⟨some 14, _, _, _, _, _⟩) (v := ?_) rfl (by kernel_rfl) (by kernel_rfl) (by kernel_rfl) (fun _ _ _ h => h) (Or.inl ⟨by rfl, ?_⟩) (by assumption) ?_
        rotate_left
        · (intro w hSw; (try dsimp only at hSw); go_simp; try (with_reducible rfl))
        (try dsimp only); (try simp only [Act.put, List.setIfInBounds_toArray, List.set_cons_zero, List.set_cons_succ])
        refine wpAnyH_ready (rs := [3]) (by kernel_rfl) (by simp) ?_
        refine AllReadyH.cons (o := ⟨some 11, _, _, _, _, _⟩) rfl (fun K hK => ?_) AllReadyH.nil
        go_simp
        go_wp2_with (go_at_call 96; refine (H1.out _ hT0).mono ?_; rintro e w3 ⟨rfl, hT1⟩)
        refine hK.out _ _ trivial (fun hHeld => ?_)
        clear hK K
        (try dsimp only); (try simp only [Act.put, List.setIfInBounds_toArray, List.set_cons_zero, List.set_cons_succ])
        refine wpAnyH_ready (rs := [7]) (by kernel_rfl) (by simp) ?_
        refine AllReadyH.cons (o := ⟨some 15, _, _, _, _, _⟩) rfl (fun K hK => ?_) AllReadyH.nil
        go_simp
        go_wp2_with (go_at_call 96; refine (H2.out _ hT1).mono ?_; rintro e w7 ⟨rfl, hT2⟩)
        refine hK.out _ _ trivial (fun hHeld => ?_)
        clear hK K
        (try dsimp only); (try simp only [Act.put, List.setIfInBounds_toArray, List.set_cons_zero, List.set_cons_succ])
        refine wpAnyH_take (i := 8) (oi := ⟨some 6, _, _, _, _, _⟩) (v := ?_) rfl (by kernel_rfl) (by kernel_rfl) (by kernel_rfl) (fun _ _ _ h => h) (Or.inl ⟨by rfl, ?_⟩) (by assumption) ?_
        rotate_left
        · (intro w hSw; (try dsimp only at hSw); go_simp; try (with_reducible rfl))
        (try dsimp only); (try simp only [Act.put, List.setIfInBounds_toArray, List.set_cons_zero, List.set_cons_succ])
        refine wpAnyH_take (i := 9) (oi := ⟨some 7, _, _, _, _, _⟩) (v := ?_) rfl (by kernel_rfl) (by kernel_rfl) (by kernel_rfl) (fun _ _ _ h => h) (Or.inl ⟨by rfl, ?_⟩) (by assumption) ?_
        rotate_left
        · (intro w hSw; (try dsimp only at hSw); go_simp; try (with_reducible rfl))
        (try dsimp only); (try simp only [Act.put, List.setIfInBounds_toArray, List.set_cons_zero, List.set_cons_succ])
        refine wpAnyH_done (by kernel_rfl) ?_ _
        refine NoPanic.normal ?_
        have HT : Hid (Turn w w7 d (dkc nv sv cv false t1 t2) 107) := hT2
        obtain ⟨hc, hfz, hl⟩ := H3.out _ hT2
        clear H1 H2 hT0 hT1 hT2 hHeld
        go_wp2
        go_ret2
        exact ⟨rfl, HT.out⟩
      | false =>
        obtain ⟨rfl, rfl⟩ := h4 rfl rfl rfl
        clear h1 h2 h3 h4
        go_enter Try.func91, Try.ntmps91
        go_upto_region 1 with fail
        refine wp_region_noPanic ?_
        refine wp_region_held_drew (S := fun _ => True) (by kernel_rfl) ?_ (fun hHeld => ?_)
        · ((try dsimp only); try trivial)
        (try dsimp only at hHeld)
        refine wpAnyH_take (i := 0) (oi := ⟨some 8, _, _, _, _, _⟩) (v := ?_) rfl (by kernel_rfl) (by kernel_rfl) (by kernel_rfl) (fun _ _ _ h => h) (Or.inl ⟨by rfl, ?_⟩) (by assumption) ?_
        rotate_left
        · (intro w hSw; (try dsimp only at hSw); go_simp; try (with_reducible rfl))
        (try dsimp only); (try simp only [Act.put, List.setIfInBounds_toArray, List.set_cons_zero, List.set_cons_succ])
        refine wpAnyH_take (i := 1) (oi := ⟨some 9, _, _, _, _, _⟩) (v := ?_) rfl (by kernel_rfl) (by kernel_rfl) (by kernel_rfl) (fun _ _ _ h => h) (Or.inl ⟨by rfl, ?_⟩) (by assumption) ?_
        rotate_left
        · (intro w hSw; (try dsimp only at hSw); go_simp; try (with_reducible rfl))
        (try dsimp only); (try simp only [Act.put, List.setIfInBounds_toArray, List.set_cons_zero, List.set_cons_succ])
        refine wpAnyH_take (i := 2) (oi := ⟨some 10, _, _, _, _, _⟩) (v := ?_) rfl (by kernel_rfl) (by kernel_rfl) (by kernel_rfl) (fun _ _ _ h => h) (Or.inl ⟨by rfl, ?_⟩) (by assumption) ?_
        rotate_left
        · (intro w hSw; (try dsimp only at hSw); go_simp; try (with_reducible rfl))
        (try dsimp only); (try simp only [Act.put, List.setIfInBounds_toArray, List.set_cons_zero, List.set_cons_succ])
        refine wpAnyH_take (i := 4) (oi := ⟨some 12, _, _, _, _, _⟩) (v := ?_) rfl (by kernel_rfl) (by kernel_rfl) (by kernel_rfl) (fun _ _ _ h => h) (Or.inl ⟨by rfl, ?_⟩) (by assumption) ?_
        rotate_left
        · (intro w hSw; (try dsimp only at hSw); go_simp; try (with_reducible rfl))
        (try dsimp only); (try simp only [Act.put, List.setIfInBounds_toArray, List.set_cons_zero, List.set_cons_succ])
        refine wpAnyH_take (i := 5) (oi := ⟨some 13, _, _, _, _, _⟩) (v := ?_) rfl (by kernel_rfl) (by kernel_rfl) (by kernel_rfl) (fun _ _ _ h => h) (Or.inl ⟨by rfl, ?_⟩) (by assumption) ?_
        rotate_left
        · (intro w hSw; (try dsimp only at hSw); go_simp; try (with_reducible rfl))
        (try dsimp only); (try simp only [Act.put, List.setIfInBounds_toArray, List.set_cons_zero, List.set_cons_succ])
        refine wpAnyH_take (i := 6) (oi := ⟨some 14, _, _, _, _, _⟩) (v := ?_) rfl (by kernel_rfl) (by kernel_rfl) (by kernel_rfl) (fun _ _ _ h => h) (Or.inl ⟨by rfl, ?_⟩) (by assumption) ?_
        rotate_left
        · (intro w hSw; (try dsimp only at hSw); go_simp; try (with_reducible rfl))
        (try dsimp only); (try simp only [Act.put, List.setIfInBounds_toArray, List.set_cons_zero, List.set_cons_succ])
        refine wpAnyH_ready (rs := [3]) (by kernel_rfl) (by simp) ?_
        refine AllReadyH.cons (o := ⟨some 11, _, _, _, _, _⟩) rfl (fun K hK => ?_) AllReadyH.nil
        go_simp
        go_wp2_with (go_at_call 96; refine (H1.out _ hT0).mono ?_; rintro e w3 ⟨rfl, hT1⟩)
        refine hK.out _ _ trivial (fun hHeld => ?_)
        clear hK K
        (try dsimp only); (try simp only [Act.put, List.setIfInBounds_toArray, List.set_cons_zero, List.set_cons_succ])
        refine wpAnyH_ready (rs := [7]) (by kernel_rfl) (by simp) ?_
        refine AllReadyH.cons (o := ⟨some 15, _, _, _, _, _⟩) rfl (fun K hK => ?_) AllReadyH.nil
        go_simp
        go_wp2_with (go_at_call 96; refine (H2.out _ hT1).mono ?_; rintro e w7 ⟨rfl, hT2⟩)
        refine hK.out _ _ trivial (fun hHeld => ?_)
        clear hK K
        (try dsimp only); (try simp only [Act.put, List.setIfInBounds_toArray, List.set_cons_zero, List.set_cons_succ])
        refine wpAnyH_take (i := 8) (oi := ⟨some 6, _, _, _, _, _⟩) (v := ?_) rfl (by kernel_rfl) (by kernel_rfl) (by kernel_rfl) (fun _ _ _ h => h) (Or.inl ⟨by rfl, ?_⟩) (by assumption) ?_
        rotate_left
        · (intro w hSw; (try dsimp only at hSw); go_simp; try (with_reducible rfl))
        (try dsimp only); (try simp only [Act.put, List.setIfInBounds_toArray, List.set_cons_zero, List.set_cons_succ])
        refine wpAnyH_take (i := 9) (oi := ⟨some 7, _, _, _, _, _⟩) (v := ?_) rfl (by kernel_rfl) (by kernel_rfl) (by kernel_rfl) (fun _ _ _ h => h) (Or.inl ⟨by rfl, ?_⟩) (by assumption) ?_
        rotate_left
        · (intro w hSw; (try dsimp only at hSw); go_simp; try (with_reducible rfl))
        (try dsimp only); (try simp only [Act.put, List.setIfInBounds_toArray, List.set_cons_zero, List.set_cons_succ])
        refine wpAnyH_done (by kernel_rfl) ?_ _
        refine NoPanic.normal ?_
        have HT : Hid (Turn w w7 d (dkc nv sv cv false t1 t2) 107) := hT2
        obtain ⟨hc, hfz, hl⟩ := H3.out _ hT2
        clear H1 H2 hT0 hT1 hT2 hHeld
        generalize fndE false f = fe at *
        generalize fndP d false f = fp at *
        go_wp2_with (go_at_call 63; refine (HF.out false _ hc hl).mono ?_; rintro e w8 ⟨rfl, rfl⟩)
        go_ret2
        exact ⟨rfl, HT.out⟩
theorem findC (w : World) (O : Nat → Nat) (d : Nat) (D : Ds) (nv sv cv : Nat → Value) (f : Int) (h : DK w O d D nv sv cv) :
    Calls Try.prog 91 #[.pointer (some ⟨d, 0, none⟩), .int .i64 f] w fun e w' => e = .returned (.tuple #[cntP d D f, .int .i64 (cntE D f)]) ∧ Turn w w' d (dkc nv sv cv (cnt D).off (cnt D).tO (cnt D).tF) 107 := by
  have eoff : (cnt D).off = (D.off || decide (D.tO = 1)) := rfl
  refine findC0 w O d D nv sv cv f h _ _ rfl rfl _ _ (fun h1 => ?_) (fun h1 h2 => ?_) (fun h1 h2 h3 => ?_) (fun h1 h2 h3 => ?_)
  · have e : cntE D f = 13 := by unfold cntE; rw [eoff, h1, Bool.or_true]; rfl
    exact ⟨by unfold cntP; rw [e]; rfl, by rw [e]⟩
  · have e : cntE D f = 13 := by unfold cntE; rw [eoff, h1, h2]; rfl
    exact ⟨by unfold cntP; rw [e]; rfl, by rw [e]⟩
  · have e : cntE D f = 14 := by unfold cntE; rw [eoff, h1, h2, if_neg (by simp), if_pos (by simpa using h3)]
    exact ⟨by unfold cntP; rw [e]; rfl, by rw [e]⟩
  · have e : cntE D f = fndE false f := by unfold cntE; rw [eoff, h1, h2, if_neg (by simp), if_neg (by simpa using h3)]
    exact ⟨by unfold cntP fndP; rw [e], by rw [e]⟩
end Go.Proofs.Ytjbhegakgdcldaa
end
section
set_option linter.unusedSimpArgs false
set_option linter.unusedVariables false
namespace Go.Proofs.Ytjbhegakgdcldaa
open Go.RowKit

/-! append(row, make([]byte, m)...): m noughts onto a row of one's own. -/
theorem zeroCells_one (z : Value) (m : Nat) : (Builtin.zeroCells #[z] m).toList = List.replicate m z := by
  unfold Builtin.zeroCells
  apply List.ext_getElem?
  intro i
  simp only [List.size_toArray, List.length_cons, List.length_nil, Nat.zero_add, Nat.mul_one, Array.toList_map, Array.toList_range, List.getElem?_map, List.getElem?_range', List.getElem?_replicate]
  by_cases h : i < m
  · rw [if_pos h]
    have : (List.range m)[i]? = some i := by rw [List.getElem?_range h]
    rw [this]
    simp [Nat.mod_one]
  · rw [if_neg h]
    rw [List.getElem?_eq_none (by simp; omega)]
    rfl
theorem bc_zeros (m : Nat) : bc (List.replicate m 0) = List.replicate m (Value.int .u8 0) := by simp [bc]
theorem info8 : (Try.prog.info? 5).map (fun i => (i.zero, i.size, i.bytes)) = some (some (Value.int .u8 0), 1, 1) := by kernel_rfl
set_option maxRecDepth 100000 in
theorem run_append_zeros (w : World) (ty : TypeId) (v : Value) (l : List UInt8) (m : Nat) (hown : Ow w 0 v l) (hm : l.length + m ≤ 1099511627776) :
    ∃ v' w', (Builtin.append_ #[58, 3] ty #[v, .int .i64 (m : Int)]).run Try.prog w = .ok v' w' ∧ Ow w' 0 v' (l ++ List.replicate m 0) ∧ w.grownBy w' v.ownBlock ∧ Sn w v v' := by
  obtain ⟨i, hi, hz, hsize, hby⟩ := info_of info8
  have ht := Try.underlying58
  have hti := Try.underlying3
  have hw : IntKind.i64.wrap (m : Int) = (m : Int) := IntWalk.i64_in _ (by omega)
  have hneg : ¬ ((m : Int) < 0) := by omega
  have h48 : ¬ (281474976710656 < (m : Int)) := by omega
  have hzc : (Value.int IntKind.u8 0).cells = #[Value.int .u8 0] := rfl
  have hap : ∀ w' : World, ((if m * 1 = 0 then pure #[] else do pure (Builtin.zeroCells (← zeroValue 5).cells m) : Sem (Array Value))).run Try.prog w' = .ok (List.replicate m (Value.int .u8 0)).toArray w' := fun w' => by
    by_cases h0 : m = 0
    · subst h0; simp
    · rw [if_neg (by omega)]
      simp [zeroValue, typeInfo, hi, hz, hzc]
      apply Array.ext'
      rw [zeroCells_one]
      simp
  have hlen : (bc (l ++ List.replicate m 0)).length = (l ++ List.replicate m (0 : UInt8)).length * 1 := by rw [bc_length]; omega
  have hall : (l ++ List.replicate m (0 : UInt8)).length = l.length + m := by simp
  have grown : ∀ (old : Nat), old < l.length + m →
      Ow (w.drew.alloc (.cells ((bc l ++ List.replicate m (Value.int .u8 0)).toArray ++ Builtin.zeroCells #[Value.int .u8 0] (grownCap w (l.length + m) old 5 - (l.length + m))) 5)) 0 (.slice (some ⟨w.heap.size, 0, none⟩) (l.length + m) (grownCap w (l.length + m) old 5)) (l ++ List.replicate m 0) := by
    intro old ho
    have hge := grownCap_ge w (l.length + m) old 5
    have hcm : grownCap w (l.length + m) old 5 ≤ maxLen := grownCap_le_maxLen w (l.length + m) old 5 (by unfold maxLen; omega)
    refine ⟨hlen, .inr ⟨w.heap.size, _, _, by rw [hall], Nat.zero_le _, heap_alloc_new w.drew _, by rw [hall]; exact hge, hcm, ?_, ?_⟩⟩
    · simp only [Array.size_append, List.size_toArray, size_zeroCells, List.length_append, bc_length, List.length_replicate, List.length_cons, List.length_nil]
      omega
    · rw [Array.toList_append, hall, Nat.mul_one, bc_append, bc_zeros]
      simp only []
      rw [List.take_left' (by simp [bc_length])]
  have hgrow : ∀ (old : Nat) (row : Option Nat), w.grownBy (w.drew.alloc (.cells ((bc l ++ List.replicate m (Value.int .u8 0)).toArray ++ Builtin.zeroCells #[Value.int .u8 0] (grownCap w (l.length + m) old 5 - (l.length + m))) 5)) row :=
    fun old row => ⟨rfl, rfl, rfl, by simp, fun k hk _ => Below.heap_alloc w.drew _ k hk⟩
  have runGrow : ∀ (base : Option Addr) (cap : Nat), cap < l.length + m → (Builtin.firstCells 1 l.length (.slice base l.length cap)).run Try.prog w.drew = .ok (bc l).toArray w.drew →
      (Builtin.append_ #[58, 3] ty #[.slice base l.length cap, .int .i64 (m : Int)]).run Try.prog w = .ok (.slice (some ⟨w.heap.size, 0, none⟩) (l.length + m) (grownCap w (l.length + m) cap 5))
        (w.drew.alloc (.cells ((bc l ++ List.replicate m (Value.int .u8 0)).toArray ++ Builtin.zeroCells #[Value.int .u8 0] (grownCap w (l.length + m) cap 5 - (l.length + m))) 5)) := fun base cap hg hold => by
    have hn : ¬ (l.length + m ≤ cap) := by omega
    have h63' : ¬ (9223372036854775807 < ((l.length : Int) + (m : Int))) := by omega
    have hfit := growslice_fits (need := l.length + m) (old := cap) (bytes := 1) (by omega) (by omega)
    have h48' : ¬ (281474976710656 < Builtin.nextslicecap (l.length + m) cap) := by omega
    have hap' := hap w.drew
    simp only [zeroValue, typeInfo] at hap'
    simp [Builtin.append_, run_underlying ht, run_underlying hti, asInt, asIntOf, sizeOf, typeInfo, zeroValue, hi, hz, hzc, hsize, hby, hw, hneg, h48, hn, h63', h48', Question.forced, hold, newRow, grownCap]
    by_cases hm0 : m = 0
    · subst hm0
      simp
    · rw [if_neg hm0]
      have e : Builtin.zeroCells #[Value.int .u8 0] m = (List.replicate m (Value.int .u8 0)).toArray := by apply Array.ext'; rw [zeroCells_one]
      rw [e]
      congr 3
      apply Array.ext'
      simp [List.append_assoc]
  by_cases h0 : m = 0
  · subst h0
    obtain ⟨ad, cap, rfl, hle⟩ := hown.shape
    have hw0 : IntKind.i64.wrap 0 = 0 := IntWalk.i64_in _ (by omega)
    refine ⟨.slice ad l.length cap, w, ?_, by simpa using hown, ⟨rfl, rfl, rfl, Nat.le_refl _, fun _ _ _ => rfl⟩, .inl rfl⟩
    cases ad <;> simp [Builtin.append_, run_underlying ht, run_underlying hti, asInt, asIntOf, sizeOf, typeInfo, hi, hsize, hby, hw0, hle, storeCells]
  rcases hown.2 with ⟨rfl, hz0⟩ | ⟨g, cap, cur, rfl, hbg, hg, hnc, hcm, hcs, htake⟩
  · obtain rfl : l = [] := List.length_eq_zero_iff.1 hz0
    exact ⟨_, _, runGrow none 0 (by simp; omega) (by simp [Builtin.firstCells]; rfl), grown 0 (by simp; omega), hgrow 0 _, .inr (fun k hk => by simp [Value.ownBlock] at hk; omega)⟩
  · by_cases hroom : l.length + m ≤ cap
    · have hnl : (List.replicate m (Value.int .u8 0)).length = m := List.length_replicate
      have hst := run_storeCells_at Try.prog g (l.length * 1) 5 (List.replicate m (Value.int .u8 0)) 0 cur w hg (by rw [hnl, hcs]; omega) (fun u hu => by rw [List.eq_of_mem_replicate hu]; rfl)
      simp only [Nat.add_zero, Nat.mul_one] at hst
      have hap' := hap w
      refine ⟨.slice (some ⟨g, 0, none⟩) (l.length + m) cap, w.setRow g (cur.toList.take l.length ++ List.replicate m (Value.int .u8 0) ++ cur.toList.drop (l.length + m)).toArray, ?_, ⟨hlen, .inr ⟨g, cap, _, by rw [hall], hbg, setRow_heap w g cur _ 5 _ hg, by rw [hall]; exact hroom, hcm, ?_, ?_⟩⟩, ⟨rfl, rfl, rfl, by simp, fun k _ hk => setRow_other w g k _ (fun e => hk (by simp [Value.ownBlock, e]))⟩, .inl rfl⟩
      · simp [Builtin.append_, run_underlying ht, run_underlying hti, asInt, asIntOf, sizeOf, typeInfo, zeroValue, hi, hz, hzc, hsize, hby, hw, hneg, h48, hroom, Addr.add_lit]
        rw [if_neg h0]
        have e : (Builtin.zeroCells #[Value.int .u8 0] m).toList = List.replicate m (Value.int .u8 0) := zeroCells_one _ _
        rw [e, hst]
        simp
      · simp only [List.size_toArray, List.length_append, List.length_take, List.length_drop, Array.length_toList, List.length_replicate]
        omega
      · rw [hall, Nat.mul_one, bc_append, bc_zeros, ← htake, Nat.mul_one]
        simp only []
        rw [List.take_left' (by simp; omega)]
    · exact ⟨_, _, runGrow _ cap (by omega) (run_firstCells_some w.drew 1 l.length ⟨g, 0, none⟩ l.length cap (bc l) (by rw [bc_length]; omega) (by simpa using hown.cells (g := g) rfl)), grown cap (by omega), hgrow cap _, .inr (fun k hk => by simp [Value.ownBlock] at hk; omega)⟩
theorem wpList_append_zeros {w : World} {ops : Array Oper} {rest : List Oper} {o : Oper} {a : Act} {Q : Exit → Act → World → Prop} (hgd : o.guard = none) (s x : Operand)
    (ho : o.op = .call { callee := .builtin .append, args := #[s, x], argTypes := #[58, 3] }) (v : Value) (l : List UInt8) (m : Nat) (hs : a.eval s = v) (hx : a.eval x = .int .i64 (m : Int)) (hown : Ow w 0 v l) (hm : l.length + m ≤ 1099511627776)
    (h : ∀ v' w', Ow w' 0 v' (l ++ List.replicate m 0) → w.grownBy w' v.ownBlock → Sn w v v' → wpList Try.prog ops Q rest (a.put o.dst v') w') : wpList Try.prog ops Q (o :: rest) a w := by
  refine wpList_plain hgd fun K hK => ?_
  obtain ⟨v', w', hr, h2, h3, h4⟩ := run_append_zeros w o.type v l m hown hm
  unfold Oper.wp execOp
  simp only [ho, resolve, invoke, builtin, Sem.run_bind, Sem.run_pure, Result.andThen_ok, List.map_toArray, List.map_cons, List.map_nil, hs, hx, hr]
  exact hK _ _ (h v' w' h2 h3 h4)
end Go.Proofs.Ytjbhegakgdcldaa
end

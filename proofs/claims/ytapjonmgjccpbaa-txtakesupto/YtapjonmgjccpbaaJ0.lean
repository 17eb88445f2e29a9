/- Texts joined: Base Blk By Idx Sss Rw1 AddM SubM Tx7. -/
import Derived.Test.YtapjonmgjccpbaaProg
import Derived.WalkKit
import Derived.WalkSpells
import Derived.WalkLawsBesides
import Derived.Deep.QuietTactic
import Derived.BigQuiet
import Derived.KernelRfl
import Derived.Laws.Externs
import Derived.Laws.ResultCell
import Derived.Deep.AppendSrc
import Derived.Laws.OwnMore
import Derived.Laws.BytesArg
import Derived.Deep.Light
import Derived.BigFrame
import Derived.Deep.MidRow
section
namespace Go.Proofs.Ytapjonmgjccpbaa
open Go.RowKit

/-! Blocks of cells, whole. -/
def Bk (w : World) (b : Nat) (vs : Array Value) (t : TypeId) : Prop := w.heap[b]? = some (.cells vs t)
theorem Bk.cell {w : World} {b : Nat} {vs : Array Value} {t : TypeId} (h : Bk w b vs t) (i : Nat) : w.cell? ⟨b, i, none⟩ = vs[i]? := by
  simp only [World.cell?]; rw [show w.heap[b]? = _ from h]; rfl
theorem Bk.frozen {w : World} {b : Nat} {vs : Array Value} {t : TypeId} (h : Bk w b vs t) (i : Nat) : w.frozen? ⟨b, i, none⟩ = false := by
  simp only [World.frozen?]; rw [show w.heap[b]? = _ from h]; simp
theorem Bk.lt {w : World} {b : Nat} {vs : Array Value} {t : TypeId} (h : Bk w b vs t) : b < w.heap.size := (Array.getElem?_eq_some_iff.1 h).1
theorem Bk.alloc {w : World} {b : Nat} {vs : Array Value} {t : TypeId} (h : Bk w b vs t) (o : Obj) : Bk (w.alloc o) b vs t := (Below.heap_alloc w o b h.lt).trans h
theorem Bk.new (w : World) (vs : Array Value) (t : TypeId) : Bk (w.alloc (.cells vs t)) w.heap.size vs t := by
  show (w.heap.push _)[w.heap.size]? = _; simp
theorem Bk.new' (w : World) (vs : Array Value) (t : TypeId) {b : Nat} (h : b = w.heap.size) : Bk (w.alloc (.cells vs t)) b vs t := by
  subst h; exact Bk.new w vs t
theorem Bk.drew {w : World} {b : Nat} {vs : Array Value} {t : TypeId} (h : Bk w b vs t) : Bk w.drew b vs t := h
theorem Bk.drewN {w : World} {b : Nat} {vs : Array Value} {t : TypeId} (h : Bk w b vs t) (n : Nat) : Bk (w.drewN n) b vs t := h
theorem Bk.other {w : World} {b : Nat} {vs : Array Value} {t : TypeId} (h : Bk w b vs t) {a : Addr} (ha : b ≠ a.block) (u : Value) : Bk (w.setCell a u) b vs t := (Below.heap_setCell w a u b ha).trans h
theorem Bk.set {w : World} {b : Nat} {vs vs' : Array Value} {t : TypeId} (h : Bk w b vs t) (i : Nat) (u : Value) (e : vs.setIfInBounds i u = vs') : Bk (w.setCell ⟨b, i, none⟩ u) b vs' t := by
  subst e; simp only [Bk, World.setCell, Array.getElem?_modify]; rw [show w.heap[b]? = _ from h]; simp
theorem Bk.below {w w' : World} {b n : Nat} {vs : Array Value} {t : TypeId} (h : Bk w b vs t) (hb : Below n w w') (hn : b < n) : Bk w' b vs t := (hb.block b hn).trans h
theorem bdrewN {B : Nat} {a w : World} (h : Below B a w) (n : Nat) : Below B a (w.drewN n) := ⟨h.os, h.tape, h.output, h.size, h.block⟩

abbrev A4 (a b c d : Int) : Array Value := #[.int .u64 a, .int .u64 b, .int .u64 c, .int .u64 d]

/-- Four limbs, each below 2^64. -/
def Lim (a0 a1 a2 a3 : Int) : Prop := (0 ≤ a0 ∧ a0 < 18446744073709551616) ∧ (0 ≤ a1 ∧ a1 < 18446744073709551616) ∧ (0 ≤ a2 ∧ a2 < 18446744073709551616) ∧ (0 ≤ a3 ∧ a3 < 18446744073709551616)
def val (a0 a1 a2 a3 : Int) : Int := a0 + a1 * 18446744073709551616 + a2 * 340282366920938463463374607431768211456 + a3 * 6277101735386680763835789423207666416102355444464034512896
def lb (n : Nat) (i : Nat) : Int := ((n / 2 ^ (64 * i) % 18446744073709551616 : Nat) : Int)
abbrev V (n : Nat) : Value := .agg (A4 (lb n 0) (lb n 1) (lb n 2) (lb n 3))
def M256 : Nat := 115792089237316195423570985008687907853269984665640564039457584007913129639936

theorem lb_lim (n : Nat) : Lim (lb n 0) (lb n 1) (lb n 2) (lb n 3) := by unfold Lim lb; omega
theorem lb_val (n : Nat) (h : n < M256) : val (lb n 0) (lb n 1) (lb n 2) (lb n 3) = n := by
  unfold M256 at h; unfold val lb
  simp only [Nat.mul_zero, Nat.pow_zero, Nat.div_one, Nat.reduceMul, Nat.reducePow]
  omega
theorem lb_of (n : Nat) (x0 x1 x2 x3 : Int) (hl : Lim x0 x1 x2 x3) (hv : val x0 x1 x2 x3 = n) : x0 = lb n 0 ∧ x1 = lb n 1 ∧ x2 = lb n 2 ∧ x3 = lb n 3 := by
  unfold Lim at hl; unfold val at hv; unfold lb
  simp only [Nat.mul_zero, Nat.pow_zero, Nat.div_one, Nat.reduceMul, Nat.reducePow]
  omega
theorem lb_zero (i : Nat) : lb 0 i = 0 := by simp [lb]
theorem V_zero : V 0 = .agg (A4 0 0 0 0) := by simp [V, lb_zero]
theorem val_nonneg (a0 a1 a2 a3 : Int) (h : Lim a0 a1 a2 a3) : 0 ≤ val a0 a1 a2 a3 ∧ val a0 a1 a2 a3 < M256 := by
  unfold Lim at h; unfold val M256; omega
theorem V_of (x0 x1 x2 x3 : Int) (hl : Lim x0 x1 x2 x3) : ∃ n : Nat, n < M256 ∧ (Value.agg (A4 x0 x1 x2 x3)) = V n ∧ val x0 x1 x2 x3 = n := by
  have h := val_nonneg _ _ _ _ hl
  refine ⟨(val x0 x1 x2 x3).toNat, by omega, ?_, by omega⟩
  obtain ⟨e0, e1, e2, e3⟩ := lb_of (val x0 x1 x2 x3).toNat x0 x1 x2 x3 hl (by omega)
  rw [V, ← e0, ← e1, ← e2, ← e3]
theorem info_of {P : Program} {t : TypeId} {z : Value} {s b : Nat} (h : (P.info? t).map (fun i => (i.zero, i.size, i.bytes)) = some (some z, s, b)) : ∃ i, P.info? t = some i ∧ i.zero = some z ∧ i.size = s ∧ i.bytes = b := by
  cases hp : P.info? t with
  | none => rw [hp] at h; simp at h
  | some i => rw [hp] at h; simp at h; exact ⟨i, rfl, h⟩
end Go.Proofs.Ytapjonmgjccpbaa
end
section
namespace Go.Proofs.Ytapjonmgjccpbaa
open Go.RowKit

/-! Blocks of four cells, written cell by cell. -/
theorem set4_Bk {W : World} {b : Nat} {t : TypeId} {x0 x1 x2 x3 : Value} (h : Bk W b #[x0, x1, x2, x3] t) (u0 u1 u2 u3 : Value) : Bk ((((W.setCell ⟨b, 0, none⟩ u0).setCell ⟨b, 1, none⟩ u1).setCell ⟨b, 2, none⟩ u2).setCell ⟨b, 3, none⟩ u3) b #[u0, u1, u2, u3] t :=
  ((((h.set 0 u0 rfl).set 1 u1 rfl).set 2 u2 rfl).set 3 u3 rfl)
theorem set4_other {W : World} {b c : Nat} {t : TypeId} {vs : Array Value} (h : Bk W b vs t) (hbc : b ≠ c) (u0 u1 u2 u3 : Value) : Bk ((((W.setCell ⟨c, 0, none⟩ u0).setCell ⟨c, 1, none⟩ u1).setCell ⟨c, 2, none⟩ u2).setCell ⟨c, 3, none⟩ u3) b vs t :=
  (((h.other hbc _).other hbc _).other hbc _).other hbc _
theorem set4_below {B : Nat} {W0 W : World} {b : Nat} (h : Below B W0 W) (hb : B ≤ b) (u0 u1 u2 u3 : Value) : Below B W0 ((((W.setCell ⟨b, 0, none⟩ u0).setCell ⟨b, 1, none⟩ u1).setCell ⟨b, 2, none⟩ u2).setCell ⟨b, 3, none⟩ u3) :=
  (((h.setCell (p := ⟨b, 0, none⟩) hb _).setCell (p := ⟨b, 1, none⟩) hb _).setCell (p := ⟨b, 2, none⟩) hb _).setCell (p := ⟨b, 3, none⟩) hb _
theorem set4_size {W : World} {b : Nat} (u0 u1 u2 u3 : Value) : ((((W.setCell ⟨b, 0, none⟩ u0).setCell ⟨b, 1, none⟩ u1).setCell ⟨b, 2, none⟩ u2).setCell ⟨b, 3, none⟩ u3).heap.size = W.heap.size := by simp
end Go.Proofs.Ytapjonmgjccpbaa
end
section
set_option linter.unusedSimpArgs false
set_option linter.unusedVariables false
namespace Go.Proofs.Ytapjonmgjccpbaa
open Go.RowKit

/-! Slices of a call's own, appended to out of whatever source; bytes as cells. -/
/-- The block of what comes back is the elder one, or a new one. -/
def Sn (w : World) (v v' : Value) : Prop := v'.ownBlock = v.ownBlock ∨ ∀ k, v'.ownBlock = some k → w.heap.size ≤ k
section
variable {P : Program} (w : World)
/-- One law for an append to a row of one's own, whatever is appended. -/
theorem run_append_own_src (base : Nat) (t tx ty e : TypeId) (i : TypeInfo) (z : Value) (size bytes : Nat) (ht : P.underlying t = some (.slice e)) (hi : P.info? e = some i) (hz : i.zero = some z)
    (hsize : i.size = size) (hby : i.bytes = bytes) (hzs : z.cells.size = size)
    (v : Value) (n : Nat) (xs : List Value) (hown : w.ownsRow base e size v n xs) (x : Value) (m : Nat) (news : List Value) (hs : Src P size tx x m news w)
    (h63 : n + m ≤ maxLen) (hbytes : (n + m) * bytes ≤ 140737488355328) (hbase : base ≤ w.heap.size) :
    ∃ v' w', (Builtin.append_ #[t, tx] ty #[v, x]).run P w = .ok v' w' ∧ w'.ownsRow base e size v' (n + m) (xs ++ news) ∧ w.grownBy w' v.ownBlock ∧ Sn w v v' := by
  subst hsize
  subst hby
  have hsmall : n + m ≤ 9223372036854775807 := by simp only [maxLen] at h63; omega
  have hl := hs.newsLen
  have hlen : (xs ++ news).length = (n + m) * i.size := by rw [List.length_append, hown.1, hl, Nat.add_mul]
  have grown : ∀ (old : Nat), old < n + m → ∀ (row : Option Nat),
      (w.drew.alloc (.cells ((xs ++ news).toArray ++ Builtin.zeroCells z.cells (grownCap w (n + m) old e - (n + m))) e)).ownsRow base e i.size
        (.slice (some ⟨w.heap.size, 0, none⟩) (n + m) (grownCap w (n + m) old e)) (n + m) (xs ++ news) ∧
      w.grownBy (w.drew.alloc (.cells ((xs ++ news).toArray ++ Builtin.zeroCells z.cells (grownCap w (n + m) old e - (n + m))) e)) row := by
    intro old ho row
    have hge := grownCap_ge w (n + m) old e
    have hcm : grownCap w (n + m) old e ≤ maxLen := grownCap_le_maxLen w (n + m) old e h63
    refine ⟨⟨hlen, .inr ⟨w.heap.size, _, _, rfl, hbase, heap_alloc_new w.drew _, hge, hcm, ?_, ?_⟩⟩, ⟨rfl, rfl, rfl, by simp, fun k hk _ => Below.heap_alloc w.drew _ k hk⟩⟩
    · simp only [Array.size_append, List.size_toArray, size_zeroCells, hzs, hlen, ← Nat.add_mul]
      congr 1
      omega
    · rw [Array.toList_append, ← hlen]
      exact List.take_left
  rcases hown.2 with ⟨rfl, rfl⟩ | ⟨g, cap, cur, rfl, hbg, hg, hnc, hcm, hcs, htake⟩
  · have hx : xs = [] := List.eq_nil_of_length_eq_zero (by simpa using hown.1)
    subst hx
    by_cases hm : m = 0
    · subst hm
      have hn : news = [] := List.eq_nil_of_length_eq_zero (by simpa using hl)
      subst hn
      refine ⟨.slice none 0 0, w, ?_, World.ownsRow_nil w base e i.size, ⟨rfl, rfl, rfl, Nat.le_refl _, fun _ _ _ => rfl⟩, .inl rfl⟩
      rcases hs.kind with ⟨e', hk⟩ | hk <;> simp [Builtin.append_, run_underlying ht, run_underlying hk, sizeOf, typeInfo, hi, hs.len, hs.cells]
    · have hr := run_append_grow_src (P := P) w t tx ty e i z ht hi hz none 0 0 [] (by simp [Builtin.firstCells]) x m news hs (by omega) (by omega) (growslice_fits (by omega) hbytes)
      have hgr := grown 0 (by omega) (Value.ownBlock (.slice none 0 0))
      exact ⟨_, _, hr, hgr.1, hgr.2, .inr (fun k hk => by simp [Value.ownBlock] at hk; omega)⟩
  · by_cases hroom : n + m ≤ cap
    · have hfit : n * i.size + news.length ≤ cur.size := by rw [hl, hcs, ← Nat.add_mul]; exact Nat.mul_le_mul_right _ hroom
      have hst := run_storeCells_at P g (n * i.size) e news 0 cur w hg (by simpa using hfit) hs.one
      simp only [Nat.add_zero] at hst
      have hr : (Builtin.append_ #[t, tx] ty #[.slice (some ⟨g, 0, none⟩) n cap, x]).run P w = .ok (.slice (some ⟨g, 0, none⟩) (n + m) cap) (w.setRow g (cur.toList.take (n * i.size) ++ news ++ cur.toList.drop (n * i.size + news.length)).toArray) := by
        rcases hs.kind with ⟨e', hk⟩ | hk <;> simp [Builtin.append_, run_underlying ht, run_underlying hk, sizeOf, typeInfo, hi, hs.len, hroom, hs.cells, Addr.add_lit, hst]
      refine ⟨_, _, hr, ⟨hlen, .inr ⟨g, cap, _, rfl, hbg, setRow_heap w g cur _ e _ hg, hroom, hcm, ?_, ?_⟩⟩, ⟨rfl, rfl, rfl, by simp, fun k _ hk => setRow_other w g k _ (fun e => hk (by simp [Value.ownBlock, e]))⟩, .inl rfl⟩
      · simp only [List.size_toArray, List.length_append, List.length_take, List.length_drop, Array.length_toList]
        omega
      · rw [htake, ← hlen]
        exact List.take_left
    · have hold : (Builtin.firstCells i.size n (.slice (some ⟨g, 0, none⟩) n cap)).run P w.drew = .ok xs.toArray w.drew :=
        run_firstCells_some w.drew i.size n ⟨g, 0, none⟩ n cap xs hown.1 (by simpa using hown.cells (g := g) rfl)
      have hr := run_append_grow_src (P := P) w t tx ty e i z ht hi hz (some ⟨g, 0, none⟩) n cap xs hold x m news hs (by omega) (by omega) (growslice_fits (by omega) hbytes)
      have hgr := grown cap (by omega) (Value.ownBlock (.slice (some ⟨g, 0, none⟩) n cap))
      exact ⟨_, _, hr, hgr.1, hgr.2, .inr (fun k hk => by simp [Value.ownBlock] at hk; omega)⟩
end
theorem wpList_append_src {P : Program} {w : World} {ops : Array Oper} {rest : List Oper} {o : Oper} {a : Act} {Q : Exit → Act → World → Prop} (hgd : o.guard = none) (s x : Operand) (t tx : TypeId)
    (ho : o.op = .call { callee := .builtin .append, args := #[s, x], argTypes := #[t, tx] })
    (base : Nat) (e : TypeId) (i : TypeInfo) (z : Value) (size bytes : Nat) (ht : P.underlying t = some (.slice e)) (hi : P.info? e = some i) (hz : i.zero = some z)
    (hsize : i.size = size) (hby : i.bytes = bytes) (hzs : z.cells.size = size)
    (v xv : Value) (n : Nat) (xs : List Value) (m : Nat) (news : List Value) (hs : a.eval s = v) (hx : a.eval x = xv) (hown : w.ownsRow base e size v n xs) (hsrc : Src P size tx xv m news w)
    (h63 : n + m ≤ maxLen) (hbytes : (n + m) * bytes ≤ 140737488355328) (hbase : base ≤ w.heap.size)
    (h : ∀ v' w', w'.ownsRow base e size v' (n + m) (xs ++ news) → w.grownBy w' v.ownBlock → Sn w v v' → wpList P ops Q rest (a.put o.dst v') w') : wpList P ops Q (o :: rest) a w := by
  refine wpList_plain hgd fun K hK => ?_
  obtain ⟨v', w', hr, h2, h3, h4⟩ := run_append_own_src (P := P) w base t tx o.type e i z size bytes ht hi hz hsize hby hzs v n xs hown xv m news hsrc h63 hbytes hbase
  unfold Oper.wp execOp
  simp only [ho, resolve, invoke, builtin, Sem.run_bind, Sem.run_pure, Result.andThen_ok, List.map_toArray, List.map_cons, List.map_nil, hs, hx, hr]
  exact hK _ _ (h v' w' h2 h3 h4)
/-- Bytes, as cells. -/
def bc (l : List UInt8) : List Value := l.map fun b => Value.int .u8 b.toNat
theorem bc_length (l : List UInt8) : (bc l).length = l.length := by simp [bc]
theorem bc_append (l m : List UInt8) : bc (l ++ m) = bc l ++ bc m := by simp [bc]
theorem bc_one {l : List UInt8} : ∀ u ∈ bc l, u.oneCell' = true := fun u hu => by obtain ⟨_, _, rfl⟩ := List.mem_map.1 hu; rfl
theorem byteCells_bc (s : ByteArray) : byteCells s = bc s.data.toList := rfl
theorem bc_take (l : List UInt8) (k : Nat) : (bc l).take k = bc (l.take k) := by simp [bc, List.map_take]
theorem bc_drop (l : List UInt8) (k : Nat) : (bc l).drop k = bc (l.drop k) := by simp [bc, List.map_drop]
/-- A slice of bytes of a call's own. -/
def Ow (w : World) (base : Nat) (v : Value) (l : List UInt8) : Prop := w.ownsRow base 5 1 v l.length (bc l)
theorem Ow.nil (w : World) (base : Nat) : Ow w base (.slice none 0 0) [] := World.ownsRow_nil w base 5 1
theorem Ow.kept {w w' : World} {base : Nat} {v : Value} {l : List UInt8} {row : Option Nat} (h : Ow w base v l) (hg : w.grownBy w' row) (hne : v.ownBlock = none ∨ v.ownBlock ≠ row) : Ow w' base v l := World.ownsRow.kept h hg hne
theorem Ow.shape {w : World} {base : Nat} {v : Value} {l : List UInt8} (h : Ow w base v l) : ∃ ad cap, v = .slice ad l.length cap ∧ l.length ≤ cap := by
  rcases h.2 with ⟨rfl, hz⟩ | ⟨g, cap, cur, rfl, _, _, hc, _⟩
  · exact ⟨none, 0, by rw [hz], by omega⟩
  · exact ⟨_, cap, rfl, hc⟩
theorem Ow.ge {w : World} {base : Nat} {v : Value} {l : List UInt8} (h : Ow w base v l) {k : Nat} (hk : v.ownBlock = some k) : base ≤ k ∧ k < w.heap.size := World.ownsRow.lt h k hk
theorem Ow.below {w w' : World} {base B : Nat} {v : Value} {l : List UInt8} (h : Ow w base v l) (hb : Below B w w') (hB : ∀ k, v.ownBlock = some k → k < B) : Ow w' base v l := by
  refine ⟨h.1, ?_⟩
  rcases h.2 with h2 | ⟨g, cap, cur, rfl, h3, h4, h5⟩
  · exact .inl h2
  · exact .inr ⟨g, cap, cur, rfl, h3, (hb.block g (hB g rfl)).trans h4, h5⟩
theorem grown_trans {w w1 w2 : World} {r r' : Option Nat} (h : w.grownBy w1 r) (h' : w1.grownBy w2 r') (hr : r' = r ∨ ∀ k, r' = some k → w.heap.size ≤ k) : w.grownBy w2 r := by
  refine ⟨h'.os.trans h.os, h'.tape.trans h.tape, h'.output.trans h.output, Nat.le_trans h.size h'.size, fun k hk hne => ?_⟩
  refine (h'.block k (Nat.lt_of_lt_of_le hk h.size) ?_).trans (h.block k hk hne)
  rcases hr with rfl | hr
  · exact hne
  · intro e; have := hr k e.symm; omega
theorem grown_of_below {w w1 : World} {r : Option Nat} (h : Below w.heap.size w w1) : w.grownBy w1 r := ⟨h.os, h.tape, h.output, h.size, fun k hk _ => h.block k hk⟩
theorem grown_below {w w1 : World} {r : Option Nat} {B : Nat} (h : w.grownBy w1 r) (hB : B ≤ w.heap.size) (hr : ∀ k, r = some k → B ≤ k) : Below B w w1 := ⟨h.os, h.tape, h.output, h.size, fun k hk => h.block k (by omega) (fun e => by have := hr k e.symm; omega)⟩
theorem Sn.refl (w : World) (v : Value) : Sn w v v := .inl rfl
theorem Sn.trans {w w1 : World} {v v1 v2 : Value} (h : Sn w v v1) (h' : Sn w1 v1 v2) (hs : w.heap.size ≤ w1.heap.size) : Sn w v v2 := by
  rcases h' with e | h'
  · rcases h with e2 | h
    · exact .inl (e.trans e2)
    · exact .inr (fun k hk => h k (by rw [← e]; exact hk))
  · exact .inr (fun k hk => Nat.le_trans hs (h' k hk))
theorem Sn.row {w : World} {v v' : Value} (h : Sn w v v') : v'.ownBlock = v.ownBlock ∨ ∀ k, v'.ownBlock = some k → w.heap.size ≤ k := h
/-- Such a slice as what is appended. -/
theorem Ow.src {w : World} {base : Nat} {v : Value} {l : List UInt8} {tx : TypeId} {e' : TypeId} (h : Ow w base v l) (hk : Try.prog.underlying tx = some (.slice e')) : Src Try.prog 1 tx v l.length (bc l) w := by
  have hc := h
  rcases h.2 with ⟨rfl, hz⟩ | ⟨g, cap, cur, rfl, _⟩
  · have : l = [] := List.length_eq_zero_iff.1 hz
    subst this
    exact Src.ofNil w hk 0
  · exact Src.ofSlice w hk ⟨g, 0, none⟩ l.length cap (bc l) (by rw [bc_length, Nat.mul_one]) (World.ownsRow.cells hc (g := g) rfl) bc_one
theorem str_of (l : List UInt8) : strOfNums (l.map fun b => (b.toNat : Int)) = ⟨l.toArray⟩ := by
  unfold strOfNums
  congr 2
  rw [List.map_map]
  conv => rhs; rw [← List.map_id l]
  apply List.map_congr_left
  intro b _
  simp
/-- string(b), of such a slice. -/
theorem Ow.string {w : World} {base : Nat} {v : Value} {l : List UInt8} (h : Ow w base v l) : (convert 51 9 v).run Try.prog w = .ok (.string ⟨l.toArray⟩) w := by
  have hc := h
  rcases h.2 with ⟨rfl, hz⟩ | ⟨g, cap, cur, rfl, _⟩
  · have : l = [] := List.length_eq_zero_iff.1 hz
    subst this
    exact run_convert_bytes_nil (P := Try.prog) w 51 5 Try.underlying51 Try.underlying5 0 0 9 Try.underlying9
  · have e := run_convert_bytes_arg (P := Try.prog) w 51 5 Try.underlying51 Try.underlying5 g 0 l.length cap (l.map fun b => (b.toNat : Int)) (by simp) (fun i hi => by
      have := World.ownsRow.cells hc (g := g) rfl i (Value.int .u8 (l[i].toNat : Int)) (by simp [bc, hi])
      have ha : (⟨g, 0, none⟩ : Addr).add i = ⟨g, 0 + i, none⟩ := by unfold Addr.add; split <;> simp_all
      rw [ha] at this
      rw [this]
      simp [hi]) 9 Try.underlying9
    rw [str_of] at e
    exact e
end Go.Proofs.Ytapjonmgjccpbaa
end
section
set_option linter.unusedSimpArgs false
set_option linter.unusedVariables false
namespace Go.Proofs.Ytapjonmgjccpbaa
open Go.RowKit

theorem idx_str (s : ByteArray) (i : Int) (j : Nat) (hj : j < s.size) (e : i = j) (w : World) : (Instr.index 9 (.string s) (.int .i64 i)).run Try.prog w = .ok (.int .u8 (s[j].toNat : Int)) w := by
  subst e
  rw [run_index_string w 9 s .i64 j Try.underlying9, dif_pos ⟨by omega, by omega⟩]
  rfl
theorem byte_lt (b : UInt8) : b.toNat < 256 := b.toNat_lt
theorem data_len (s : ByteArray) : s.data.toList.length = s.size := rfl
end Go.Proofs.Ytapjonmgjccpbaa
end
section
set_option linter.unusedSimpArgs false
set_option linter.unusedVariables false
namespace Go.Proofs.Ytapjonmgjccpbaa
open Go.RowKit

theorem cell_lt' {w : World} {a : Addr} {v : Value} (h : w.cell? a = some v) : a.block < w.heap.size := World.block_lt_of_cell? w a h
/-- A slice of strings, as the walk reads it. -/
def Ss (w : World) (v : Value) (f : Nat → ByteArray) (len : Nat) : Prop :=
  len ≤ maxLen ∧ (∀ i, i < len → (f i).size ≤ maxLen) ∧ ∃ ad cap, v = .slice ad len cap ∧ ∀ i, i < len → ∃ b off, ad = some ⟨b, off, none⟩ ∧ w.cell? ⟨b, off + i, none⟩ = some (.string (f i))
end Go.Proofs.Ytapjonmgjccpbaa
end
section
set_option linter.unusedSimpArgs false
set_option linter.unusedVariables false
namespace Go.Proofs.Ytapjonmgjccpbaa
open Go.RowKit

/-! Slices of a call's own, one cell an element. -/
def Or {α : Type} (e : TypeId) (c : α → Value) (w : World) (base : Nat) (v : Value) (l : List α) : Prop := w.ownsRow base e 1 v l.length (l.map c)
section
variable {α : Type} {e : TypeId} {c : α → Value} {w w' : World} {base B g cap n : Nat} {v : Value} {l : List α}
theorem Or.nil (e : TypeId) (c : α → Value) (w : World) (base : Nat) : Or e c w base (.slice none 0 0) [] := World.ownsRow_nil w base e 1
theorem Or.kept {row : Option Nat} (h : Or e c w base v l) (hg : w.grownBy w' row) (hne : v.ownBlock = none ∨ v.ownBlock ≠ row) : Or e c w' base v l := World.ownsRow.kept h hg hne
theorem Or.alloc (h : Or e c w base v l) (o : Obj) : Or e c (w.alloc o) base v l := World.ownsRow.alloc h o
theorem Or.shape (h : Or e c w base v l) : ∃ ad cap, v = .slice ad l.length cap ∧ l.length ≤ cap := by
  rcases h.2 with ⟨rfl, hz⟩ | ⟨g, cap, cur, rfl, _, _, hc, _⟩
  · exact ⟨none, 0, by rw [hz], by omega⟩
  · exact ⟨_, cap, rfl, hc⟩
theorem Or.shape1 (h : Or e c w base v l) (hl : 0 < l.length) : ∃ g cap, v = .slice (some ⟨g, 0, none⟩) l.length cap ∧ l.length ≤ cap ∧ cap ≤ maxLen ∧ base ≤ g ∧ g < w.heap.size := by
  rcases h.2 with ⟨rfl, hz⟩ | ⟨g, cap, cur, rfl, hb, hh, hc, hm, _⟩
  · omega
  · exact ⟨g, cap, rfl, hc, hm, hb, (Array.getElem?_eq_some_iff.1 hh).1⟩
theorem Or.ge (h : Or e c w base v l) {k : Nat} (hk : v.ownBlock = some k) : base ≤ k ∧ k < w.heap.size := World.ownsRow.lt h k hk
theorem Or.below (h : Or e c w base v l) (hb : Below B w w') (hB : ∀ k, v.ownBlock = some k → k < B) : Or e c w' base v l := by
  refine ⟨h.1, ?_⟩
  rcases h.2 with h2 | ⟨g, cap, cur, rfl, h3, h4, h5⟩
  · exact .inl h2
  · exact .inr ⟨g, cap, cur, rfl, h3, (hb.block g (hB g rfl)).trans h4, h5⟩
theorem Or.below' (h : Or e c w base v l) (hb : Below w.heap.size w w') : Or e c w' base v l := h.below hb fun k hk => (h.ge hk).2
theorem Or.based {base' : Nat} (h : Or e c w base v l) (hb : base' ≤ base) : Or e c w base' v l := by
  refine ⟨h.1, ?_⟩
  rcases h.2 with h2 | ⟨g, cap, cur, rfl, h3, h4, h5⟩
  · exact .inl h2
  · exact .inr ⟨g, cap, cur, rfl, by omega, h4, h5⟩
theorem Or.drew (h : Or e c w base v l) : Or e c w.drew base v l := h
theorem Or.cell (h : Or e c w base (.slice (some ⟨g, 0, none⟩) l.length cap) l) (i : Nat) (hi : i < l.length) : w.cell? ⟨g, i, none⟩ = some (c l[i]) := by
  rw [World.ownsRow.cellAt h i (by omega)]
  simp [hi]
theorem Or.frozen (h : Or e c w base (.slice (some ⟨g, 0, none⟩) l.length cap) l) (i : Nat) : w.frozen? ⟨g, i, none⟩ = false := World.ownsRow.frozenAt h i
theorem Or.apart {β : Type} {e' : TypeId} {d : β → Value} {base' : Nat} {u : Value} {m : List β} (h : Or e c w base v l) (h' : Or e' d w base' u m) (he : e ≠ e') : v.ownBlock = none ∨ v.ownBlock ≠ u.ownBlock := by
  rcases h.2 with ⟨rfl, _⟩ | ⟨g, cap, cur, rfl, _, hh, _⟩
  · exact .inl rfl
  · right
    rcases h'.2 with ⟨rfl, _⟩ | ⟨g', cap', cur', rfl, _, hh', _⟩
    · simp [Value.ownBlock]
    · intro hg
      simp [Value.ownBlock] at hg
      subst hg
      rw [hh] at hh'
      simp at hh'
      exact he hh'.2
theorem Or.set (h : Or e c w base (.slice (some ⟨g, 0, none⟩) l.length cap) l) (i : Nat) (x : α) : Or e c (w.setCell ⟨g, i, none⟩ (c x)) base (.slice (some ⟨g, 0, none⟩) l.length cap) (l.set i x) := by
  rcases h.2 with ⟨h0, _⟩ | ⟨g', cap', cur, hv, hb, hh, h1, h2, h3, h4⟩
  · simp at h0
  · simp at hv
    obtain ⟨rfl, rfl⟩ := hv
    refine ⟨by simp, .inr ⟨g, cap, cur.setIfInBounds i (c x), by simp, hb, ?_, by simpa using h1, h2, by simpa using h3, ?_⟩⟩
    · simp [World.setCell, Array.getElem?_modify, hh]
    · rw [Array.toList_setIfInBounds, List.length_set, List.map_set, ← h4, List.take_set]
theorem Or.other (h : Or e c w base v l) (p : Addr) (u : Value) (hne : v.ownBlock = none ∨ v.ownBlock ≠ some p.block) : Or e c (w.setCell p u) base v l := by
  refine ⟨h.1, ?_⟩
  rcases h.2 with h2 | ⟨g, cap, cur, rfl, h3, h4, h5⟩
  · exact .inl h2
  · refine .inr ⟨g, cap, cur, rfl, h3, ?_, h5⟩
    rw [Below.heap_setCell w p u g (by rcases hne with h | h <;> simp [Value.ownBlock] at h; exact h)]
    exact h4
theorem Or.src {tx e' : TypeId} (h : Or e c w base v l) (h1 : ∀ x, (c x).oneCell' = true) (hk : Try.prog.underlying tx = some (.slice e')) : Src Try.prog 1 tx v l.length (l.map c) w := by
  have hc := h
  rcases h.2 with ⟨rfl, hz⟩ | ⟨g, cap, cur, rfl, _⟩
  · have : l = [] := List.length_eq_zero_iff.1 hz
    subst this
    exact Src.ofNil w hk 0
  · exact Src.ofSlice w hk ⟨g, 0, none⟩ l.length cap (l.map c) (by simp) (World.ownsRow.cells hc (g := g) rfl) (fun u hu => by obtain ⟨x, _, rfl⟩ := List.mem_map.1 hu; exact h1 x)
end
/-- An append to a row of one's own, behind a guard that says yes. -/
theorem wpList_append_ownG {P : Program} {w : World} {ops : Array Oper} {rest : List Oper} {o : Oper} {a : Act} {Q : Exit → Act → World → Prop} (hw : Region.wanted o (yielded ops a.tmps) = true) (s x : Operand) (t : TypeId)
    (ho : o.op = .call { callee := .builtin .append, args := #[s, x], argTypes := #[t, t] })
    (base : Nat) (e : TypeId) (i : TypeInfo) (z : Value) (size bytes : Nat) (ht : P.underlying t = some (.slice e)) (hi : P.info? e = some i) (hz : i.zero = some z)
    (hsize : i.size = size) (hby : i.bytes = bytes) (hzs : z.cells.size = size) (hsz : 0 < size)
    (v : Value) (n : Nat) (xs : List Value) (hs : a.eval s = v) (hown : w.ownsRow base e size v n xs)
    (ad : Addr) (m c : Nat) (news : List Value) (hx : a.eval x = .slice (some ad) m c) (hl : news.length = m * size) (hnews : ∀ j u, news[j]? = some u → w.cell? (ad.add j) = some u) (h1 : ∀ u ∈ news, u.oneCell' = true)
    (h63 : n + m ≤ maxLen) (hbytes : (n + m) * bytes ≤ 140737488355328) (hbase : base ≤ w.heap.size)
    (h : ∀ v' w', w'.ownsRow base e size v' (n + m) (xs ++ news) → w.grownBy w' v.ownBlock → (v' = .slice none 0 0 ↔ v = .slice none 0 0 ∧ m = 0) → wpList P ops Q rest (a.put o.dst v') w') : wpList P ops Q (o :: rest) a w :=
  BigFrame.wpList_want hw fun _ hK => wp_append_own w s x t ho base e i z size bytes ht hi hz hsize hby hzs hsz v n xs hs hown ad m c news hx hl hnews h1 h63 hbytes hbase fun v' w' h2 h3 h4 => hK _ _ (h v' w' h2 h3 h4)
/-- Of marks, of strings. -/
abbrev cU (n : Nat) : Value := .int .u64 (n : Int)
abbrev cS (s : ByteArray) : Value := .string s
theorem infoU : (Try.prog.info? 24).map (fun i => (i.zero, i.size, i.bytes)) = some (some (.int .u64 0), 1, 8) := by kernel_rfl
theorem infoS : (Try.prog.info? 9).map (fun i => (i.zero, i.size, i.bytes)) = some (some (.string ⟨#[]⟩), 1, 16) := by kernel_rfl
/-- A slice of marks, as the walk reads it. -/
def Su (w : World) (v : Value) (g : Nat → Nat) (len : Nat) : Prop :=
  len ≤ maxLen ∧ (∀ i, i < len → g i < 18446744073709551616) ∧ ∃ ad cap, v = .slice ad len cap ∧ ∀ i, i < len → ∃ b off, ad = some ⟨b, off, none⟩ ∧ w.cell? ⟨b, off + i, none⟩ = some (.int .u64 (g i : Int))
theorem Su.below {w w' : World} {v : Value} {g : Nat → Nat} {len : Nat} (h : Su w v g len) (hb : Below w.heap.size w w') : Su w' v g len := by
  obtain ⟨h1, h2, ad, cap, hv, h3⟩ := h
  refine ⟨h1, h2, ad, cap, hv, fun i hi => ?_⟩
  obtain ⟨b, off, ha, hc⟩ := h3 i hi
  exact ⟨b, off, ha, (hb.cell (cell_lt' hc)).trans hc⟩
theorem Ss.below {w w' : World} {v : Value} {g : Nat → ByteArray} {len : Nat} (h : Ss w v g len) (hb : Below w.heap.size w w') : Ss w' v g len := by
  obtain ⟨h1, h2, ad, cap, hv, h3⟩ := h
  refine ⟨h1, h2, ad, cap, hv, fun i hi => ?_⟩
  obtain ⟨b, off, ha, hc⟩ := h3 i hi
  exact ⟨b, off, ha, (hb.cell (cell_lt' hc)).trans hc⟩
theorem Or.su {e : TypeId} {w : World} {base : Nat} {v : Value} {l : List Nat} (h : Or e cU w base v l) (hl : ∀ x ∈ l, x < 18446744073709551616) : Su w v (fun i => l.getD i 0) l.length := by
  rcases Nat.eq_zero_or_pos l.length with hz | hp
  · obtain ⟨ad, cap, rfl, _⟩ := h.shape
    exact ⟨by rw [hz]; simp, fun i hi => absurd hi (by omega), ad, cap, rfl, fun i hi => absurd hi (by omega)⟩
  · obtain ⟨g, cap, rfl, h1, h2, _, _⟩ := h.shape1 hp
    refine ⟨by omega, fun i hi => ?_, _, cap, rfl, fun i hi => ⟨g, 0, rfl, ?_⟩⟩
    · rw [show (fun i => l.getD i 0) i = l[i] by simp [hi]]
      exact hl _ (List.getElem_mem hi)
    · rw [Nat.zero_add, h.cell i hi]
      simp [hi]
theorem Or.ss {e : TypeId} {w : World} {base : Nat} {v : Value} {l : List ByteArray} (h : Or e cS w base v l) (hl : ∀ x ∈ l, x.size ≤ maxLen) : Ss w v (fun i => l.getD i ByteArray.empty) l.length := by
  rcases Nat.eq_zero_or_pos l.length with hz | hp
  · obtain ⟨ad, cap, rfl, _⟩ := h.shape
    exact ⟨by rw [hz]; simp, fun i hi => absurd hi (by omega), ad, cap, rfl, fun i hi => absurd hi (by omega)⟩
  · obtain ⟨g, cap, rfl, h1, h2, _, _⟩ := h.shape1 hp
    refine ⟨by omega, fun i hi => ?_, _, cap, rfl, fun i hi => ⟨g, 0, rfl, ?_⟩⟩
    · rw [show (fun i => l.getD i ByteArray.empty) i = l[i] by simp [hi]]
      exact hl _ (List.getElem_mem hi)
    · rw [Nat.zero_add, h.cell i hi]
      simp [hi]
end Go.Proofs.Ytapjonmgjccpbaa
end
section
set_option linter.unusedSimpArgs false
set_option linter.unusedVariables false
namespace Go.Proofs.Ytapjonmgjccpbaa
open Go.RowKit

/-! The plain arithmetic of sums, limb by limb. -/
def AddInv (k n m : Nat) (x0 x1 x2 x3 c : Int) : Prop :=
  Lim x0 x1 x2 x3 ∧ 0 ≤ c ∧ c ≤ 1 ∧ (k ≤ 0 → x0 = 0) ∧ (k ≤ 1 → x1 = 0) ∧ (k ≤ 2 → x2 = 0) ∧ (k ≤ 3 → x3 = 0) ∧
    val x0 x1 x2 x3 + c * ((2 ^ (64 * k) : Nat) : Int) = ((n % 2 ^ (64 * k) : Nat) : Int) + ((m % 2 ^ (64 * k) : Nat) : Int)
def addOk (n m : Nat) : Bool := decide (n + m < M256)
def addV (n m : Nat) : Nat := if n + m < M256 then n + m else 0
theorem addInv0 (n m : Nat) : AddInv 0 n m 0 0 0 0 0 := by
  unfold AddInv Lim val; simp
theorem addStep0 (n m : Nat) (x0 x1 x2 x3 c : Int) (h : AddInv 0 n m x0 x1 x2 x3 c) :
    AddInv 1 n m ((lb n 0 + lb m 0 + c) % 18446744073709551616) x1 x2 x3 ((lb n 0 + lb m 0 + c) / 18446744073709551616) := by
  unfold AddInv Lim val lb at *
  simp only [Nat.mul_zero, Nat.pow_zero, Nat.div_one, Nat.reduceMul, Nat.reducePow] at *
  omega
theorem addStep1 (n m : Nat) (x0 x1 x2 x3 c : Int) (h : AddInv 1 n m x0 x1 x2 x3 c) :
    AddInv 2 n m x0 ((lb n 1 + lb m 1 + c) % 18446744073709551616) x2 x3 ((lb n 1 + lb m 1 + c) / 18446744073709551616) := by
  unfold AddInv Lim val lb at *
  simp only [Nat.mul_zero, Nat.pow_zero, Nat.div_one, Nat.reduceMul, Nat.reducePow] at *
  omega
theorem addStep2 (n m : Nat) (x0 x1 x2 x3 c : Int) (h : AddInv 2 n m x0 x1 x2 x3 c) :
    AddInv 3 n m x0 x1 ((lb n 2 + lb m 2 + c) % 18446744073709551616) x3 ((lb n 2 + lb m 2 + c) / 18446744073709551616) := by
  unfold AddInv Lim val lb at *
  simp only [Nat.mul_zero, Nat.pow_zero, Nat.div_one, Nat.reduceMul, Nat.reducePow] at *
  omega
theorem addStep3 (n m : Nat) (x0 x1 x2 x3 c : Int) (h : AddInv 3 n m x0 x1 x2 x3 c) :
    AddInv 4 n m x0 x1 x2 ((lb n 3 + lb m 3 + c) % 18446744073709551616) ((lb n 3 + lb m 3 + c) / 18446744073709551616) := by
  unfold AddInv Lim val lb at *
  simp only [Nat.mul_zero, Nat.pow_zero, Nat.div_one, Nat.reduceMul, Nat.reducePow] at *
  omega
theorem addEnd (n m : Nat) (hn : n < M256) (hm : m < M256) (x0 x1 x2 x3 c : Int) (h : AddInv 4 n m x0 x1 x2 x3 c) :
    (c = 0 ∧ n + m < M256 ∧ x0 = lb (n + m) 0 ∧ x1 = lb (n + m) 1 ∧ x2 = lb (n + m) 2 ∧ x3 = lb (n + m) 3) ∨ (c = 1 ∧ ¬ n + m < M256) := by
  unfold AddInv at h
  obtain ⟨hl, c0, c1, _, _, _, _, hv⟩ := h
  have := val_nonneg _ _ _ _ hl
  simp only [Nat.reduceMul, Nat.reducePow] at hv
  by_cases e : c = 0
  · left
    subst e
    have hlt : n + m < M256 := by unfold M256 at *; omega
    exact ⟨rfl, hlt, lb_of (n + m) _ _ _ _ hl (by unfold M256 at *; omega)⟩
  · right
    exact ⟨by omega, by unfold M256 at *; omega⟩
/-- What the page's own two tests make of a limb. -/
theorem refLimb (a b c : Int) (ha : 0 ≤ a ∧ a < 18446744073709551616) (hb : 0 ≤ b ∧ b < 18446744073709551616) (hc : 0 ≤ c ∧ c ≤ 1) :
    IntKind.u64.wrap (IntKind.u64.wrap (a + b) + c) = (a + b + c) % 18446744073709551616 ∧
    (IntKind.u64.wrap (a + b) < a → 1 = (a + b + c) / 18446744073709551616) ∧
    (IntKind.u64.wrap (IntKind.u64.wrap (a + b) + c) < IntKind.u64.wrap (a + b) → 1 = (a + b + c) / 18446744073709551616) ∧
    (a ≤ IntKind.u64.wrap (a + b) → IntKind.u64.wrap (a + b) ≤ IntKind.u64.wrap (IntKind.u64.wrap (a + b) + c) → 0 = (a + b + c) / 18446744073709551616) := by
  simp only [IntKind.wrap_u64]; omega
theorem lb_bd (n i : Nat) : 0 ≤ lb n i ∧ lb n i < 18446744073709551616 := by unfold lb; omega
theorem addInv_c {k n m : Nat} {x0 x1 x2 x3 c : Int} (h : AddInv k n m x0 x1 x2 x3 c) : 0 ≤ c ∧ c ≤ 1 := ⟨h.2.1, h.2.2.1⟩

end Go.Proofs.Ytapjonmgjccpbaa
end
section
set_option linter.unusedSimpArgs false
set_option linter.unusedVariables false
namespace Go.Proofs.Ytapjonmgjccpbaa
open Go.RowKit

/-! The plain arithmetic of differences. -/
def lo64 (x : Int) : Int := x % 18446744073709551616
def hi64 (x : Int) : Int := x / 18446744073709551616
def bor (x y c : Int) : Int := if x < y + c then 1 else 0
def SubInv (k n m : Nat) (x0 x1 x2 x3 c : Int) : Prop :=
  Lim x0 x1 x2 x3 ∧ 0 ≤ c ∧ c ≤ 1 ∧ (k ≤ 0 → x0 = 0) ∧ (k ≤ 1 → x1 = 0) ∧ (k ≤ 2 → x2 = 0) ∧ (k ≤ 3 → x3 = 0) ∧
    val x0 x1 x2 x3 - c * ((2 ^ (64 * k) : Nat) : Int) = ((n % 2 ^ (64 * k) : Nat) : Int) - ((m % 2 ^ (64 * k) : Nat) : Int)
def addOkE (n m : Nat) : Int := if n + m < M256 then 0 else 8
def subOkE (n m : Nat) : Int := if m ≤ n then 0 else 8
def subOk (n m : Nat) : Bool := decide (m ≤ n)
def subV (n m : Nat) : Nat := if m ≤ n then n - m else 0
theorem subInv0 (n m : Nat) : SubInv 0 n m 0 0 0 0 0 := by
  unfold SubInv Lim val; simp
theorem subInv_c {k n m : Nat} {x0 x1 x2 x3 c : Int} (h : SubInv k n m x0 x1 x2 x3 c) : 0 ≤ c ∧ c ≤ 1 := ⟨h.2.1, h.2.2.1⟩
theorem subStep0 (n m : Nat) (x0 x1 x2 x3 c : Int) (h : SubInv 0 n m x0 x1 x2 x3 c) :
    SubInv 1 n m (lo64 (lb n 0 - lb m 0 - c)) x1 x2 x3 (bor (lb n 0) (lb m 0) c) := by
  unfold SubInv Lim val lb lo64 bor at *
  simp only [Nat.mul_zero, Nat.pow_zero, Nat.div_one, Nat.reduceMul, Nat.reducePow] at *
  split <;> omega
theorem subStep1 (n m : Nat) (x0 x1 x2 x3 c : Int) (h : SubInv 1 n m x0 x1 x2 x3 c) :
    SubInv 2 n m x0 (lo64 (lb n 1 - lb m 1 - c)) x2 x3 (bor (lb n 1) (lb m 1) c) := by
  unfold SubInv Lim val lb lo64 bor at *
  simp only [Nat.mul_zero, Nat.pow_zero, Nat.div_one, Nat.reduceMul, Nat.reducePow] at *
  split <;> omega
theorem subStep2 (n m : Nat) (x0 x1 x2 x3 c : Int) (h : SubInv 2 n m x0 x1 x2 x3 c) :
    SubInv 3 n m x0 x1 (lo64 (lb n 2 - lb m 2 - c)) x3 (bor (lb n 2) (lb m 2) c) := by
  unfold SubInv Lim val lb lo64 bor at *
  simp only [Nat.mul_zero, Nat.pow_zero, Nat.div_one, Nat.reduceMul, Nat.reducePow] at *
  split <;> omega
theorem subStep3 (n m : Nat) (x0 x1 x2 x3 c : Int) (h : SubInv 3 n m x0 x1 x2 x3 c) :
    SubInv 4 n m x0 x1 x2 (lo64 (lb n 3 - lb m 3 - c)) (bor (lb n 3) (lb m 3) c) := by
  unfold SubInv Lim val lb lo64 bor at *
  simp only [Nat.mul_zero, Nat.pow_zero, Nat.div_one, Nat.reduceMul, Nat.reducePow] at *
  split <;> omega
theorem subEnd (n m : Nat) (hn : n < M256) (hm : m < M256) (x0 x1 x2 x3 c : Int) (h : SubInv 4 n m x0 x1 x2 x3 c) :
    (c = 0 ∧ m ≤ n ∧ x0 = lb (n - m) 0 ∧ x1 = lb (n - m) 1 ∧ x2 = lb (n - m) 2 ∧ x3 = lb (n - m) 3) ∨ (c = 1 ∧ ¬ m ≤ n) := by
  unfold SubInv at h
  obtain ⟨hl, c0, c1, _, _, _, _, hv⟩ := h
  have := val_nonneg _ _ _ _ hl
  simp only [Nat.reduceMul, Nat.reducePow] at hv
  by_cases e : c = 0
  · left
    subst e
    have hlt : m ≤ n := by unfold M256 at *; omega
    exact ⟨rfl, hlt, lb_of (n - m) _ _ _ _ hl (by unfold M256 at *; omega)⟩
  · right
    exact ⟨by omega, by unfold M256 at *; omega⟩
/-- What the page's own two tests make of a limb. -/
theorem refLimbS (a b c : Int) (ha : 0 ≤ a ∧ a < 18446744073709551616) (hb : 0 ≤ b ∧ b < 18446744073709551616) (hc : 0 ≤ c ∧ c ≤ 1) :
    IntKind.u64.wrap (IntKind.u64.wrap (a - b) - c) = lo64 (a - b - c) ∧
    (a < b → 1 = bor a b c) ∧
    (IntKind.u64.wrap (a - b) < c → 1 = bor a b c) ∧
    (b ≤ a → c ≤ IntKind.u64.wrap (a - b) → 0 = bor a b c) := by
  unfold lo64 bor
  simp only [IntKind.wrap_u64]
  refine ⟨by omega, ?_, ?_, ?_⟩ <;> intros <;> split <;> omega
def cmpV (n m : Nat) : Int := if n < m then -1 else if n = m then 0 else 1
/-- The limbs from k on are alike. -/
def Alk (k n m : Nat) : Prop := (k ≤ 0 → lb n 0 = lb m 0) ∧ (k ≤ 1 → lb n 1 = lb m 1) ∧ (k ≤ 2 → lb n 2 = lb m 2) ∧ (k ≤ 3 → lb n 3 = lb m 3)
theorem alk4 (n m : Nat) : Alk 4 n m := by unfold Alk; omega
theorem alkStep {k n m : Nat} (hk : k < 4) (h : Alk (k + 1) n m) (h1 : lb n k ≤ lb m k) (h2 : lb m k ≤ lb n k) : Alk k n m := by
  have : k = 0 ∨ k = 1 ∨ k = 2 ∨ k = 3 := by omega
  rcases this with rfl | rfl | rfl | rfl <;> unfold Alk at * <;> omega
theorem alkLess {k n m : Nat} (hn : n < M256) (hm : m < M256) (hk : k < 4) (h : Alk (k + 1) n m) (h1 : lb n k < lb m k) : n < m := by
  have a := lb_val n hn
  have b := lb_val m hm
  have c := lb_lim n
  have d := lb_lim m
  have : k = 0 ∨ k = 1 ∨ k = 2 ∨ k = 3 := by omega
  unfold val at a b; unfold Lim at c d; unfold Alk at h
  rcases this with rfl | rfl | rfl | rfl <;> omega
theorem alkMore {k n m : Nat} (hn : n < M256) (hm : m < M256) (hk : k < 4) (h : Alk (k + 1) n m) (h1 : lb m k < lb n k) : m < n := by
  have a := lb_val n hn
  have b := lb_val m hm
  have c := lb_lim n
  have d := lb_lim m
  have : k = 0 ∨ k = 1 ∨ k = 2 ∨ k = 3 := by omega
  unfold val at a b; unfold Lim at c d; unfold Alk at h
  rcases this with rfl | rfl | rfl | rfl <;> omega
theorem alkSame {n m : Nat} (hn : n < M256) (hm : m < M256) (h : Alk 0 n m) : n = m := by
  have a := lb_val n hn
  have b := lb_val m hm
  unfold val at a b; unfold Alk at h
  omega
theorem cmpV_less {n m : Nat} (h : n < m) : cmpV n m = -1 := by unfold cmpV; rw [if_pos h]
theorem cmpV_more {n m : Nat} (h : m < n) : cmpV n m = 1 := by unfold cmpV; rw [if_neg (by omega), if_neg (by omega)]
theorem cmpV_same (n : Nat) : cmpV n n = 0 := by unfold cmpV; rw [if_neg (by omega), if_pos rfl]
end Go.Proofs.Ytapjonmgjccpbaa
end
section
set_option linter.unusedSimpArgs false
set_option linter.unusedVariables false
namespace Go.Proofs.Ytapjonmgjccpbaa
open Go.RowKit

/-! Transactions (api.Tx): as data, as a value, as cells. -/
structure TX where
  fr : Int
  no : Int
  ti : Nat
  ca : Nat
  bc : Nat
  va : Nat
  ga : Int
  hs : List Nat
  bs : List ByteArray
/-- Its cells, its hashes and its blobs as these slices. -/
abbrev txc (t : TX) (u v : Value) : Array Value := #[.int .i64 t.fr, .int .i64 t.no,
  .int .u64 (lb t.ti 0), .int .u64 (lb t.ti 1), .int .u64 (lb t.ti 2), .int .u64 (lb t.ti 3),
  .int .u64 (lb t.ca 0), .int .u64 (lb t.ca 1), .int .u64 (lb t.ca 2), .int .u64 (lb t.ca 3),
  .int .u64 (lb t.bc 0), .int .u64 (lb t.bc 1), .int .u64 (lb t.bc 2), .int .u64 (lb t.bc 3),
  .int .u64 (lb t.va 0), .int .u64 (lb t.va 1), .int .u64 (lb t.va 2), .int .u64 (lb t.va 3),
  .int .i64 t.ga, u, v]
/-- Its numbers are numbers. -/
structure TXw (t : TX) : Prop where
  ti : t.ti < M256
  ca : t.ca < M256
  bc : t.bc < M256
  va : t.va < M256
  fr : -9223372036854775808 ≤ t.fr ∧ t.fr ≤ 9223372036854775807
  no : -9223372036854775808 ≤ t.no ∧ t.no ≤ 9223372036854775807
  ga : -9223372036854775808 ≤ t.ga ∧ t.ga ≤ 9223372036854775807
  hs : ∀ x ∈ t.hs, x < 18446744073709551616
  bs : ∀ x ∈ t.bs, x.size ≤ maxLen
/-- Its slices, read. -/
def RT (w : World) (t : TX) (u v : Value) : Prop := Su w u (fun i => t.hs.getD i 0) t.hs.length ∧ Ss w v (fun i => t.bs.getD i ByteArray.empty) t.bs.length
theorem RT.below {w w' : World} {t : TX} {u v : Value} (h : RT w t u v) (hb : Below w.heap.size w w') : RT w' t u v := ⟨h.1.below hb, h.2.below hb⟩
/-- Four cells from o on and one more, in one block. -/
def C5 (X o p a : Nat) (v : Value) (w : World) : Prop :=
  w.cell? ⟨X, o, none⟩ = some (.int .u64 (lb a 0)) ∧ w.cell? ⟨X, o + 1, none⟩ = some (.int .u64 (lb a 1)) ∧ w.cell? ⟨X, o + 2, none⟩ = some (.int .u64 (lb a 2)) ∧ w.cell? ⟨X, o + 3, none⟩ = some (.int .u64 (lb a 3)) ∧ w.cell? ⟨X, p, none⟩ = some v
theorem C5.below {X o p a : Nat} {v : Value} {w w' : World} (h : C5 X o p a v w) (hb : Below w.heap.size w w') : C5 X o p a v w' := by
  obtain ⟨h0, h1, h2, h3, h4⟩ := h
  exact ⟨(hb.cell (cell_lt' h0)).trans h0, (hb.cell (cell_lt' h1)).trans h1, (hb.cell (cell_lt' h2)).trans h2, (hb.cell (cell_lt' h3)).trans h3, (hb.cell (cell_lt' h4)).trans h4⟩
theorem C5.drew {X o p a : Nat} {v : Value} {w : World} (h : C5 X o p a v w) : C5 X o p a v w.drew := h
theorem C5.alloc {X o p a : Nat} {v : Value} {w : World} (h : C5 X o p a v w) (x : Obj) : C5 X o p a v (w.alloc x) := h.below ((Below.refl _ w).alloc (Nat.le_refl _) x)
theorem C5.set {X o p a : Nat} {v : Value} {w : World} (h : C5 X o p a v w) {q : Addr} (hq : X ≠ q.block) (u : Value) : C5 X o p a v (w.setCell q u) := by
  have e : ∀ j, (w.setCell q u).cell? ⟨X, j, none⟩ = w.cell? ⟨X, j, none⟩ := fun j => World.cell?_of_block (w := w) (Below.heap_setCell w _ _ X hq)
  obtain ⟨h0, h1, h2, h3, h4⟩ := h
  exact ⟨(e _).trans h0, (e _).trans h1, (e _).trans h2, (e _).trans h3, (e _).trans h4⟩
theorem infoT : (Try.prog.info? 30).map (·.size) = some 21 := by kernel_rfl
/-- A whole transaction, loaded. -/
theorem load_tx {w : World} {X : Nat} {t : TX} {u v : Value} (h : Bk w X (txc t u v) 30) : (Instr.loadAt 30 (.pointer (some ⟨X, 0, none⟩))).run Try.prog w = .ok (.agg (txc t u v)) w :=
  run_loadAt_mid (P := Try.prog) w X 0 30 (txc t u v).toList _ (fun j x hx => by rw [Nat.zero_add, h.cell]; simpa using hx) Try.underlying30 rfl infoT
theorem wpList_load_tx {ops : Array Oper} {rest : List Oper} {op : Oper} {a : Act} {w : World} {Q : Exit → Act → World → Prop} (hgd : op.guard = none) (x : Operand) (ho : op.op = .load 30 x)
    {X : Nat} (hx : a.eval x = .pointer (some ⟨X, 0, none⟩)) {t : TX} {u v : Value} (h : Bk w X (txc t u v) 30) (hk : wpList Try.prog ops Q rest (a.put op.dst (.agg (txc t u v))) w) : wpList Try.prog ops Q (op :: rest) a w :=
  wpList_load_mid hgd 30 x ho X 0 hx (txc t u v).toList _ (fun j x hx => by rw [Nat.zero_add, h.cell]; simpa using hx) Try.underlying30 rfl infoT hk
/-- The cost, whatever it is. -/
def costN (t : TX) : Nat := t.ca * t.ga.toNat + t.bc * (131072 * t.bs.length) + t.va
def costV (t : TX) : Nat := if costN t < M256 then costN t else 0
end Go.Proofs.Ytapjonmgjccpbaa
end

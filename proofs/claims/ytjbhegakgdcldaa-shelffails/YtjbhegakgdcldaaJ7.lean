/- Texts joined: Rm0 ShF ShG ShH. -/
import Derived.Test.YtjbhegakgdcldaaJ0
import Derived.Laws.OwnMore
import Derived.Laws.CopyRow
import Derived.Test.YtjbhegakgdcldaaJ6
section
set_option linter.unusedSimpArgs false
set_option linter.unusedVariables false
set_option maxRecDepth 100000
namespace Go.Proofs.Ytjbhegakgdcldaa
open Go.RowKit

/-! A row of n bytes, of which the first ones are in use: what is appended while there is room stays in it. -/
theorem infoBy : (Try.prog.info? 5).map (fun i => (i.zero, i.size, i.bytes)) = some (some (.int .u8 0), 1, 1) := by kernel_rfl
def zpad (n : Nat) (l : List UInt8) : List UInt8 := l ++ List.replicate (n - l.length) 0
theorem zpad_length {n : Nat} {l : List UInt8} (h : l.length ≤ n) : (zpad n l).length = n := by unfold zpad; simp; omega
def Rm (w : World) (g n : Nat) (l : List UInt8) : Prop := Bk w g (bc (zpad n l)).toArray 5
theorem zpad_app {n : Nat} {l m : List UInt8} (h : l.length + m.length ≤ n) : (bc (zpad n l)).take l.length ++ bc m ++ (bc (zpad n l)).drop (l.length + m.length) = bc (zpad n (l ++ m)) := by
  rw [bc_take, bc_drop, ← bc_append, ← bc_append]
  congr 1
  unfold zpad
  rw [List.take_append_of_le_length (Nat.le_refl _), List.take_length, List.drop_append, List.drop_eq_nil_of_le (by omega), List.nil_append, List.drop_replicate, List.length_append]
  congr 2
  omega
/-- An append within the room. -/
theorem run_append_in {P : Program} (w : World) (t tx ty : TypeId) (i : TypeInfo) (ht : P.underlying t = some (.slice 5)) (hi : P.info? 5 = some i) (hz : i.zero = some (.int .u8 0)) (hsize : i.size = 1)
    (g n : Nat) (l m : List UInt8) (h : Rm w g n l) (x : Value) (hs : Src P 1 tx x m.length (bc m) w) (hroom : l.length + m.length ≤ n) :
    ∃ w', (Builtin.append_ #[t, tx] ty #[.slice (some ⟨g, 0, none⟩) l.length n, x]).run P w = .ok (.slice (some ⟨g, 0, none⟩) (l ++ m).length n) w' ∧ Rm w' g n (l ++ m) ∧ w.grownBy w' (some g) ∧ w'.heap.size = w.heap.size := by
  have hg : w.heap[g]? = some (.cells (bc (zpad n l)).toArray 5 (0, 0)) := h
  have hz0 : (bc (zpad n l)).toArray.size = n := by rw [List.size_toArray, bc_length, zpad_length (by omega)]
  have hfit : l.length * i.size + (bc m).length ≤ (bc (zpad n l)).toArray.size := by rw [hz0, hsize, bc_length]; omega
  have hst := run_storeCells_at P g (l.length * i.size) 5 (bc m) 0 _ w hg (by simpa using hfit) hs.one
  simp only [Nat.add_zero] at hst
  have hcc := hs.cells
  rw [← hsize] at hcc
  have hr : (Builtin.append_ #[t, tx] ty #[.slice (some ⟨g, 0, none⟩) l.length n, x]).run P w = .ok (.slice (some ⟨g, 0, none⟩) (l.length + m.length) n) (w.setRow g ((bc (zpad n l)).toArray.toList.take (l.length * i.size) ++ bc m ++ (bc (zpad n l)).toArray.toList.drop (l.length * i.size + (bc m).length)).toArray) := by
    rcases hs.kind with ⟨e', hk⟩ | hk <;> simp [Builtin.append_, run_underlying ht, run_underlying hk, sizeOf, typeInfo, hi, hs.len, hroom, hcc, Addr.add_lit, hst]
  have e : (bc (zpad n l)).toArray.toList.take (l.length * i.size) ++ bc m ++ (bc (zpad n l)).toArray.toList.drop (l.length * i.size + (bc m).length) = bc (zpad n (l ++ m)) := by
    rw [hsize, Nat.mul_one, bc_length]
    exact zpad_app hroom
  rw [e] at hr
  rw [List.length_append]
  exact ⟨_, hr, setRow_heap w g _ _ 5 (0, 0) hg, ⟨rfl, rfl, rfl, by simp, fun k _ hk => setRow_other w g k _ (fun e => hk (by rw [e]))⟩, by simp⟩
theorem wpList_append_in {P : Program} {w : World} {ops : Array Oper} {rest : List Oper} {o : Oper} {a : Act} {Q : Exit → Act → World → Prop} (hgd : o.guard = none) (s x : Operand) (t tx : TypeId)
    (ho : o.op = .call { callee := .builtin .append, args := #[s, x], argTypes := #[t, tx] })
    (i : TypeInfo) (ht : P.underlying t = some (.slice 5)) (hi : P.info? 5 = some i) (hz : i.zero = some (.int .u8 0)) (hsize : i.size = 1)
    (g n : Nat) (l m : List UInt8) (xv : Value) (hs : a.eval s = .slice (some ⟨g, 0, none⟩) l.length n) (hx : a.eval x = xv) (hrm : Rm w g n l) (hsrc : Src P 1 tx xv m.length (bc m) w) (hroom : l.length + m.length ≤ n)
    (h : ∀ w', Rm w' g n (l ++ m) → w.grownBy w' (some g) → w'.heap.size = w.heap.size → wpList P ops Q rest (a.put o.dst (.slice (some ⟨g, 0, none⟩) (l ++ m).length n)) w') : wpList P ops Q (o :: rest) a w := by
  refine wpList_plain hgd fun K hK => ?_
  obtain ⟨w', hr, h2, h3, h4⟩ := run_append_in (P := P) w t tx o.type i ht hi hz hsize g n l m hrm xv hsrc hroom
  unfold Oper.wp execOp
  simp only [ho, resolve, invoke, builtin, Sem.run_bind, Sem.run_pure, Result.andThen_ok, List.map_toArray, List.map_cons, List.map_nil, hs, hx, hr]
  exact hK _ _ (h w' h2 h3 h4)
end Go.Proofs.Ytjbhegakgdcldaa
end
section
set_option linter.unusedSimpArgs false
set_option linter.unusedVariables false
set_option maxRecDepth 100000
namespace Go.Proofs.Ytjbhegakgdcldaa
open Go.RowKit

/-! image. -/
theorem rm_make (n : Nat) (hn : n ≤ 100000) (W : World) : (Instr.makeSlice 58 (.int .i64 0) (.int .i64 (n : Int))).run Try.prog W = .ok (.slice (some ⟨W.heap.size, 0, none⟩) 0 n) (W.alloc (.cells (bc (zpad n [])).toArray 5)) := by
  obtain ⟨i0, hi, hz0, hz1, hz2⟩ := info_of infoBy
  have h := run_make (P := Try.prog) W 58 5 i0 (.int .u8 0) Try.underlying58 hi hz0 .i64 .i64 0 (n : Int) (by omega) (by omega) (by rw [hz2]; omega) (by omega)
  have e : madeCells (Value.int .u8 0).cells (((n : Nat) : Int).toNat * i0.size) = (bc (zpad n [])).toArray := by
    apply Array.toList_inj.1
    rw [hz1]
    simp only [Value.cells, Nat.mul_one, Int.toNat_natCast]
    rw [toList_madeCells_one]
    simp [bc, zpad]
  rw [e] at h
  simpa using h
def imgB (n k : Nat) : List UInt8 := [0, UInt8.ofNat (k / 256), UInt8.ofNat k, UInt8.ofNat (n / 64)]
theorem imgB_bc (n k : Nat) (hk : k ≤ 1008) (hn : n ≤ 1024) : bc (imgB n k) = [.int .u8 0, .int .u8 ((k : Int) / 256), .int .u8 ((k : Int) % 256), .int .u8 ((n : Int) / 64)] := by
  have e1 : ((UInt8.ofNat (k / 256)).toNat : Int) = (k : Int) / 256 := by rw [UInt8.toNat_ofNat']; omega
  have e2 : ((UInt8.ofNat k).toNat : Int) = (k : Int) % 256 := by rw [UInt8.toNat_ofNat']; omega
  have e3 : ((UInt8.ofNat (n / 64)).toNat : Int) = (n : Int) / 64 := by rw [UInt8.toNat_ofNat']; omega
  show [Value.int .u8 ((0 : UInt8).toNat : Int), .int .u8 ((UInt8.ofNat (k / 256)).toNat : Int), .int .u8 ((UInt8.ofNat k).toNat : Int), .int .u8 ((UInt8.ofNat (n / 64)).toNat : Int)] = _
  rw [e1, e2, e3]
  rfl
theorem four_src {W : World} {g : Nat} {x y z u : Value} (hb : Bk W g #[x, y, z, u] 5) (h1 : x.oneCell' = true) (h2 : y.oneCell' = true) (h3 : z.oneCell' = true) (h4 : u.oneCell' = true) : Src Try.prog 1 58 (.slice (some ⟨g, 0, none⟩) 4 4) 4 [x, y, z, u] W := by
  have c0 := hb.cell 0
  have c1 := hb.cell 1
  have c2 := hb.cell 2
  have c3 := hb.cell 3
  simp only [List.getElem?_toArray, List.getElem?_cons_zero, List.getElem?_cons_succ] at c0 c1 c2 c3
  refine Src.ofSlice W Try.underlying58 ⟨g, 0, none⟩ 4 4 [x, y, z, u] rfl (fun j v hj => ?_) (fun v hv => ?_)
  · rw [Addr.add_lit, Nat.zero_add]
    match j with
    | 0 => simp at hj; subst hj; exact c0
    | 1 => simp at hj; subst hj; exact c1
    | 2 => simp at hj; subst hj; exact c2
    | 3 => simp at hj; subst hj; exact c3
    | j + 4 => simp at hj
  · simp at hv
    rcases hv with rfl | rfl | rfl | rfl <;> assumption
set_option maxHeartbeats 4000000 in
theorem image10 (tx : ByteArray) (n : Nat) (hn : n = 128 ∨ n = 256 ∨ n = 512 ∨ n = 1024) (ht : tx.size + 16 ≤ n) (w : World) :
    Calls Try.prog 84 #[.string tx, .int .i64 (n : Int)] w fun e w' => ∃ g, e = .returned (.slice (some ⟨g, 0, none⟩) n n) ∧ Rm w' g n (imgH n tx ++ tx.data.toList) ∧ w.heap.size ≤ g ∧ Below w.heap.size w w' := by
  obtain ⟨i0, hi, hz0, hz1, hz2⟩ := info_of infoBy
  have HI : Hid (Try.prog.info? 5 = some i0 ∧ i0.zero = some (.int .u8 0) ∧ i0.size = 1) := ⟨hi, hz0, hz1⟩
  have hmk := rm_make n (by omega)
  have hn0 : 0 ≤ (n : Int) := by omega
  have hsz : tx.size ≤ 1008 := by omega
  clear hi hz0 hz1 hz2
  go_enter Try.func84, Try.ntmps84
  go_wp2_with (at_builtin; refine stop10 ?_)
  unfold Hold10
  have HRm : Hid (Rm ((w.alloc (Obj.cells (bc (zpad n [])).toArray 5)).alloc (Obj.cells #[Value.int IntKind.u8 0, Value.int IntKind.u8 (↑tx.size / 256), Value.int IntKind.u8 (↑tx.size % 256), Value.int IntKind.u8 (↑n / 64)] 5)) w.heap.size n []) := (Bk.new w _ 5).alloc _
  have HSr : Hid (Src Try.prog 1 58 (.slice (some ⟨w.heap.size + 1, 0, none⟩) 4 4) (imgB n tx.size).length (bc (imgB n tx.size)) ((w.alloc (Obj.cells (bc (zpad n [])).toArray 5)).alloc (Obj.cells #[Value.int IntKind.u8 0, Value.int IntKind.u8 (↑tx.size / 256), Value.int IntKind.u8 (↑tx.size % 256), Value.int IntKind.u8 (↑n / 64)] 5))) := by
    show Src Try.prog 1 58 _ (imgB n tx.size).length (bc (imgB n tx.size)) _
    rw [imgB_bc n tx.size hsz (by omega)]
    exact four_src (Bk.new' _ _ _ (by simp)) rfl rfl rfl rfl
  have HB1 : Hid (Below w.heap.size w ((w.alloc (Obj.cells (bc (zpad n [])).toArray 5)).alloc (Obj.cells #[Value.int IntKind.u8 0, Value.int IntKind.u8 (↑tx.size / 256), Value.int IntKind.u8 (↑tx.size % 256), Value.int IntKind.u8 (↑n / 64)] 5))) := ((Below.refl _ w).alloc (Nat.le_refl _) _).alloc (by simp) _
  refine wpList_append_in rfl _ _ 58 58 rfl i0 Try.underlying58 HI.out.1 HI.out.2.1 HI.out.2.2 w.heap.size n [] (imgB n tx.size) _ rfl rfl HRm.out HSr.out (by show 0 + 4 ≤ n; omega) ?_
  intro w1 hr1 hg1 hz1
  have HR1 : Hid (Rm w1 w.heap.size n ([] ++ imgB n tx.size)) := hr1
  have HG1 : Hid (Below w.heap.size w w1) := HB1.out.trans (grown_below hg1 (by simp; omega) (fun k hk => by injection hk with hk; omega))
  clear hr1 hg1 hz1
  go_wp2_with (at_builtin; refine stop10 ?_)
  unfold Hold10
  refine wpList_append_in rfl _ _ 58 9 rfl i0 Try.underlying58 HI.out.1 HI.out.2.1 HI.out.2.2 w.heap.size n ([] ++ imgB n tx.size) wordL (.string ⟨#[116, 97, 114, 110, 39, 115, 32, 115, 104, 101, 108, 102]⟩) rfl rfl HR1.out (Src.ofString w1 Try.underlying9 _) (by show 4 + 12 ≤ n; omega) ?_
  intro w2 hr2 hg2 hz2
  have HR2 : Hid (Rm w2 w.heap.size n (([] ++ imgB n tx.size) ++ wordL)) := hr2
  have HG2 : Hid (Below w.heap.size w w2) := HG1.out.trans (grown_below hg2 HG1.out.size (fun k hk => by injection hk with hk; omega))
  clear hr2 hg2 hz2
  go_wp2_with (at_builtin; refine stop10 ?_)
  unfold Hold10
  refine wpList_append_in rfl _ _ 58 9 rfl i0 Try.underlying58 HI.out.1 HI.out.2.1 HI.out.2.2 w.heap.size n (([] ++ imgB n tx.size) ++ wordL) tx.data.toList (.string tx) rfl rfl HR2.out (Src.ofString w2 Try.underlying9 tx) (by show 16 + tx.size ≤ n; omega) ?_
  intro w3 hr3 hg3 hz3
  have HR3 : Hid (Rm w3 w.heap.size n ((([] ++ imgB n tx.size) ++ wordL) ++ tx.data.toList)) := hr3
  have HG3 : Hid (Below w.heap.size w w3) := HG2.out.trans (grown_below hg3 HG2.out.size (fun k hk => by injection hk with hk; omega))
  clear hr3 hg3 hz3
  have hl3 : ((([] ++ imgB n tx.size) ++ wordL) ++ tx.data.toList).length = 16 + tx.size := by
    rw [List.length_append]
    rfl
  rw [hl3]
  clear hl3 hmk
  go_wp2_with fail
  go_ret
  exact ⟨w.heap.size, rfl, HR3.out, Nat.le_refl _, HG3.out⟩
end Go.Proofs.Ytjbhegakgdcldaa
end
section
set_option linter.unusedSimpArgs false
set_option linter.unusedVariables false
set_option maxRecDepth 100000
namespace Go.Proofs.Ytjbhegakgdcldaa
open Go.RowKit

/-! lay, endMove, move. -/
theorem bc_at (l : List UInt8) (i : Nat) (h : i < l.length) : (bc l)[i]? = some (.int .u8 (l[i].toNat : Int)) := by simp [bc, h]
theorem Rm.rb {w : World} {g n : Nat} {l : List UInt8} (h : Rm w g n l) (hl : l.length ≤ n) (hn : n ≤ 9223372036854775807) : Rb w (.slice (some ⟨g, 0, none⟩) (zpad n l).length n) (zpad n l) := by
  have hz := zpad_length hl
  refine ⟨some ⟨g, 0, none⟩, n, rfl, by omega, by omega, fun i hi => ⟨g, 0, rfl, ?_⟩⟩
  rw [Nat.zero_add]
  exact (h.cell i).trans (by rw [← Array.getElem?_toList]; exact bc_at _ i hi)
theorem img_eq (n : Nat) (t : ByteArray) : img n t = zpad n (imgH n t ++ t.data.toList) := rfl
theorem imgH_len (n : Nat) (t : ByteArray) : (imgH n t ++ t.data.toList).length = 16 + t.size := by rw [List.length_append]; rfl
theorem img_len {n : Nat} {t : ByteArray} (h : t.size + 16 ≤ n) : (img n t).length = n := by rw [img_eq]; exact zpad_length (by rw [imgH_len]; omega)
theorem Few.swD {D : Ds} {q : Nat} (h : Few D q) (f p : Nat) (bs : List UInt8) : Few (swD D f p bs) (q + 1) := by
  unfold Go.Proofs.Ytjbhegakgdcldaa.swD
  split
  · exact h.wrD _ _ _
  · exact (h.wrD _ _ _).psyD _
def L2 (b o n X : Nat) (tx : ByteArray) (w' : World) : Prop := w'.cell? ⟨b, o + 2, none⟩ = some (.int .i64 (n : Int)) ∧ w'.cell? ⟨X, 1, none⟩ = some (.string tx)
theorem L2.drew {b o n X : Nat} {tx : ByteArray} {w' : World} (h : L2 b o n X tx w') : L2 b o n X tx w'.drew := h
theorem L2.below {b o n X : Nat} {tx : ByteArray} {A B : World} (h : L2 b o n X tx A) (hb : Below A.heap.size A B) : L2 b o n X tx B := ⟨(hb.cell (World.block_lt_of_cell? _ _ h.1)).trans h.1, (hb.cell (World.block_lt_of_cell? _ _ h.2)).trans h.2⟩
section
variable {w W W' : World} {O P : Nat → Nat} {vs : Value → Bool → Array Value} {b o d f n : Nat} {t : TypeId} {ps ps' : List Pl} {fl fl' : Bool} {D : Ds} {pv v' : Value}
theorem Rs.of_eq {r : Rs} {e : Int} {D : Ds} {ps : List Pl} (h : r = ⟨e, D, ps⟩) : r.e = e ∧ r.D = D ∧ r.ps = ps := by subst h; exact ⟨rfl, rfl, rfl⟩
theorem lyR_no {at_ : Nat} {p : Pl} (h : swE D f (at_ * n) (img n p.tx) ≠ 0) : lyR f n at_ p D ps = ⟨swE D f (at_ * n) (img n p.tx), Go.Proofs.Ytjbhegakgdcldaa.swD D f (at_ * n) (img n p.tx), ps⟩ := by
  unfold lyR
  simp only [ne_eq, h, not_false_eq_true, if_true]
theorem lyR_ok {at_ : Nat} {p : Pl} (h : swE D f (at_ * n) (img n p.tx) = 0) : lyR f n at_ p D ps = mkR f n at_ p (Go.Proofs.Ytjbhegakgdcldaa.swD D f (at_ * n) (img n p.tx)) ps := by
  unfold lyR
  simp only [ne_eq, h, not_true_eq_false, if_false]
set_option maxHeartbeats 4000000 in
theorem lay10c (hx : Box vs o d f n t) (h : SH w W d O P vs b t D ps fl) {q : Nat} (hf : Few D q) (hq : q + 2 ≤ 1000) (hl : ps.length ≤ 500) (at_ : Nat) (hat : at_ ≤ ps.length) (p : Pl) (ht : p.tx.size + 16 ≤ n) :
    Calls Try.prog 65 #[.pointer (some ⟨b, o, none⟩), .int .i64 (at_ : Int), .agg #[.int .u8 (p.m.toNat : Int), .string p.tx]] W fun e w' => e = .returned (.int .i64 (lyR f n at_ p D ps).e) ∧ Post10 w d vs b t O P W (lyR f n at_ p D ps).D (lyR f n at_ p D ps).ps fl w' ∧ (at_ < ps.length → Cs b o W w') := by
  have HX : Hid (Box vs o d f n t) := hx
  have HH : Hid (SH w W d O P vs b t D ps fl) := h
  have hn1 := hx.n1
  have hil : (img n p.tx).length = n := img_len ht
  have HW : Hid (∀ w1 g, Below W.heap.size W w1 → W.heap.size ≤ g → Rm w1 g n (imgH n p.tx ++ p.tx.data.toList) → Calls Try.prog 80 #[.pointer (some ⟨b, o, none⟩), .int .i64 (at_ : Int), .slice (some ⟨g, 0, none⟩) n n] w1 fun e w' => e = .returned (.int .i64 (swE D f (at_ * n) (img n p.tx))) ∧ ∃ O', SH w w' d O' P vs b t (swD D f (at_ * n) (img n p.tx)) ps fl ∧ Fp (fun k => O k + P k) w1 (fun k => O' k + P k) w' ∧ Cs b o W w') := fun w1 g h1 h2 h3 => by
    have hrb := h3.rb (by rw [imgH_len]; omega) (by omega)
    rw [← img_eq] at hrb
    have := write10 hx (h.below h1) hf (by omega) at_ (by omega) (some ⟨g, 0, none⟩) (img n p.tx) n hrb (fun b' n' e => by simp at e; obtain ⟨rfl, _⟩ := e; exact h.d1.new h2)
    rw [hil] at this
    refine this.mono ?_
    rintro e w' ⟨rfl, O', h4, h5⟩
    exact ⟨rfl, O', h4, (h.below h1).wrote h4 h5, (h.csb o h1).trans ((h.below h1).cs o h5)⟩
  have HI : Hid (∀ w1, Calls Try.prog 84 #[.string p.tx, .int .i64 (n : Int)] w1 fun e w' => ∃ g, e = .returned (.slice (some ⟨g, 0, none⟩) n n) ∧ Rm w' g n (imgH n p.tx ++ p.tx.data.toList) ∧ w1.heap.size ≤ g ∧ Below w1.heap.size w1 w') := fun w1 => image10 p.tx n hx.hn ht w1
  have HM : Hid (∀ w2 O2, SH w w2 d O2 P vs b t (swD D f (at_ * n) (img n p.tx)) ps fl → Calls Try.prog 61 #[.pointer (some ⟨b, o, none⟩), .int .i64 (at_ : Int), .agg #[.int .u8 (p.m.toNat : Int), .string p.tx]] w2 fun e w' => e = .returned (.int .i64 (mkR f n at_ p (swD D f (at_ * n) (img n p.tx)) ps).e) ∧ Post10 w d vs b t O2 P w2 (mkR f n at_ p (swD D f (at_ * n) (img n p.tx)) ps).D (mkR f n at_ p (swD D f (at_ * n) (img n p.tx)) ps).ps fl w' ∧ (at_ < ps.length → Cs b o w2 w')) := fun w2 O2 h2 => mark10c hx h2 (hf.swD f (at_ * n) (img n p.tx)) (by omega) hl at_ hat p
  have HBx : Hid (O W.heap.size + P W.heap.size = 0) := by show _ = 0; rw [h.d1.new (Nat.le_refl _), h.pnew (Nat.le_refl _)]
  have hlW := h.blt
  have hb1 : Below W.heap.size W (W.alloc (.cells #[.int .u8 (p.m.toNat : Int), .string p.tx] 94)) := (Below.refl _ W).alloc (Nat.le_refl _) _
  have HB1 : Hid (Below W.heap.size W (W.alloc (.cells #[.int .u8 (p.m.toNat : Int), .string p.tx] 94))) := hb1
  have hbox : Bk (W.alloc (.cells #[.int .u8 (p.m.toNat : Int), .string p.tx] 94)) W.heap.size #[.int .u8 (p.m.toNat : Int), .string p.tx] 94 := Bk.new _ _ _
  have HBk : Hid (Bk (W.alloc (.cells #[.int .u8 (p.m.toNat : Int), .string p.tx] 94)) W.heap.size #[.int .u8 (p.m.toNat : Int), .string p.tx] 94) := hbox
  have hc3 := (h.below hb1).c3s hx
  have x1 := hbox.cell 0
  have x2 := hbox.cell 1
  simp only [List.getElem?_toArray, List.getElem?_cons_zero, List.getElem?_cons_succ] at x1 x2
  have hT : L2 b o n W.heap.size p.tx (W.alloc (.cells #[.int .u8 (p.m.toNat : Int), .string p.tx] 94)) := ⟨hc3.2.2, x2⟩
  have HL2 : Hid (∀ w2 O2 D2, SH w w2 d O2 P vs b t D2 ps fl → Bk w2 W.heap.size #[.int .u8 (p.m.toNat : Int), .string p.tx] 94 → L2 b o n W.heap.size p.tx w2 ∧ b < w2.heap.size ∧ w2.cell? ⟨W.heap.size, 0, none⟩ = some (.int .u8 (p.m.toNat : Int)) ∧ w2.cell? ⟨W.heap.size, 1, none⟩ = some (.string p.tx)) := fun w2 O2 D2 h2 h3 => ⟨⟨(h2.c3s hx).2.2, h3.cell 1⟩, h2.blt, h3.cell 0, h3.cell 1⟩
  have lb1 : b < (W.alloc (.cells #[.int .u8 (p.m.toNat : Int), .string p.tx] 94)).heap.size := by simp; omega
  clear h hx hf hb1 hbox hc3 hil
  by_cases hz : swE D f (at_ * n) (img n p.tx) = 0
  · rw [lyR_ok hz]
    rw [hz] at HW
    generalize swD D f (at_ * n) (img n p.tx) = D1 at *
    generalize mkR f n at_ p D1 ps = R at *
    clear hz
    generalize (p.m.toNat : Int) = m at *
    generalize p.tx = tx at *
    go_enter Try.func65, Try.ntmps65
    go_upto_region 1 with fail
    generalize W.alloc (.cells #[.int .u8 m, .string tx] 94) = W1 at *
    go_region_held3 (fun w' => w'.cell? ⟨b, o + 2, none⟩ = some (.int .i64 (n : Int)) ∧ w'.cell? ⟨W.heap.size, 1, none⟩ = some (.string tx)) ((show L2 b o n W.heap.size tx _; repeat (first | with_reducible exact hT | with_reducible refine L2.drew ?_))) ((first
      | (go_at_call 84; refine Calls.mono (HI.out _) ?_; rintro e w7 ⟨g, rfl, hr7, hg7, hb7⟩; have hT := hT.drew.below hb7; have HR7 : Hid (Rm w7 g n (imgH n tx ++ tx.data.toList)) := hr7; have HG7 : Hid (W.heap.size ≤ g) := Nat.le_trans HB1.out.size hg7; have HB7 : Hid (Below W1.heap.size W1 w7) := (Below.refl _ _).drew.trans hb7; clear hr7 hg7 hb7)
      | (go_at_call 80; refine Calls.mono (HW.out _ _ (HB1.out.trans (HB7.out.mono HB1.out.size)) HG7.out HR7.out) ?_; rintro e w8 ⟨rfl, O8, h8, f8, s8⟩; have S8 : Hid (Cs b o W w8) := s8; clear s8; obtain ⟨hT, lb8, y0, y1⟩ := HL2.out _ _ _ h8 (f8.bk (HBk.out.below HB7.out HBk.out.lt) HBx.out); have H8 : Hid (SH w w8 d O8 P vs b t D1 ps fl) := h8; have F8 : Hid (Fp (fun k => O k + P k) w7 (fun k => O8 k + P k) w8) := f8; clear h8 f8)))
    go_wp2_with (go_at_call 61; refine Calls.mono (HM.out _ _ H8.out) ?_; rintro e w9 ⟨rfl, h9, s9⟩)
    go_ret
    exact ⟨rfl, (h9.pre F8.out).pre (HH.out.fp_below (HB1.out.trans (HB7.out.mono HB1.out.size))), fun h => S8.out.trans (s9 h)⟩
  · rw [lyR_no hz]
    show Calls Try.prog 65 #[.pointer (some ⟨b, o, none⟩), .int .i64 (at_ : Int), .agg #[.int .u8 (p.m.toNat : Int), .string p.tx]] W fun e w' => e = .returned (.int .i64 (swE D f (at_ * n) (img n p.tx))) ∧ Post10 w d vs b t O P W (swD D f (at_ * n) (img n p.tx)) ps fl w' ∧ (at_ < ps.length → Cs b o W w')
    clear HM
    generalize swD D f (at_ * n) (img n p.tx) = D1 at *
    generalize swE D f (at_ * n) (img n p.tx) = ev at *
    have hne : (ev != 0) = true := by rw [bne_iff_ne]; exact hz
    clear hz
    generalize (p.m.toNat : Int) = m at *
    generalize p.tx = tx at *
    go_enter Try.func65, Try.ntmps65
    go_upto_region 1 with fail
    generalize W.alloc (.cells #[.int .u8 m, .string tx] 94) = W1 at *
    go_region_held3 (fun w' => w'.cell? ⟨b, o + 2, none⟩ = some (.int .i64 (n : Int)) ∧ w'.cell? ⟨W.heap.size, 1, none⟩ = some (.string tx)) ((show L2 b o n W.heap.size tx _; repeat (first | with_reducible exact hT | with_reducible refine L2.drew ?_))) ((first
      | (go_at_call 84; refine Calls.mono (HI.out _) ?_; rintro e w7 ⟨g, rfl, hr7, hg7, hb7⟩; have hT := hT.drew.below hb7; have HR7 : Hid (Rm w7 g n (imgH n tx ++ tx.data.toList)) := hr7; have HG7 : Hid (W.heap.size ≤ g) := Nat.le_trans HB1.out.size hg7; have HB7 : Hid (Below W1.heap.size W1 w7) := (Below.refl _ _).drew.trans hb7; clear hr7 hg7 hb7)
      | (go_at_call 80; refine Calls.mono (HW.out _ _ (HB1.out.trans (HB7.out.mono HB1.out.size)) HG7.out HR7.out) ?_; rintro e w8 ⟨rfl, O8, h8, f8, s8⟩; have S8 : Hid (Cs b o W w8) := s8; clear s8; obtain ⟨hT, lb8, y0, y1⟩ := HL2.out _ _ _ h8 (f8.bk (HBk.out.below HB7.out HBk.out.lt) HBx.out); have H8 : Hid (SH w w8 d O8 P vs b t D1 ps fl) := h8; have F8 : Hid (Fp (fun k => O k + P k) w7 (fun k => O8 k + P k) w8) := f8; clear h8 f8)))
    go_wp2_with fail
    go_ret
    exact ⟨rfl, ⟨_, _, H8.out, (HH.out.fp_below (HB1.out.trans (HB7.out.mono HB1.out.size))).trans F8.out⟩, fun _ => S8.out⟩
theorem lay10 (hx : Box vs o d f n t) (h : SH w W d O P vs b t D ps fl) {q : Nat} (hf : Few D q) (hq : q + 2 ≤ 1000) (hl : ps.length ≤ 500) (at_ : Nat) (hat : at_ ≤ ps.length) (p : Pl) (ht : p.tx.size + 16 ≤ n) :
    Calls Try.prog 65 #[.pointer (some ⟨b, o, none⟩), .int .i64 (at_ : Int), .agg #[.int .u8 (p.m.toNat : Int), .string p.tx]] W fun e w' => e = .returned (.int .i64 (lyR f n at_ p D ps).e) ∧ Post10 w d vs b t O P W (lyR f n at_ p D ps).D (lyR f n at_ p D ps).ps fl w' :=
  (lay10c hx h hf hq hl at_ hat p ht).mono fun e w' h => ⟨h.1, h.2.1⟩
end
end Go.Proofs.Ytjbhegakgdcldaa
end
section
set_option linter.unusedSimpArgs false
set_option linter.unusedVariables false
set_option maxRecDepth 100000
namespace Go.Proofs.Ytjbhegakgdcldaa
open Go.RowKit

/-! Put, Del. -/
section
variable {w W W' : World} {O P : Nat → Nat} {vs : Value → Bool → Array Value} {b o d f n : Nat} {t : TypeId} {ps ps' : List Pl} {fl fl' : Bool} {D : Ds} {pv v' : Value}
/-- The mark of failure is turned. -/
theorem SH.fail (hx : Box vs o d f n t) (h : SH w W d O P vs b t D ps fl) : Post10 w d vs b t O P W D ps true (W.setCell ⟨b, o + 4, none⟩ (.bool true)) := by
  obtain ⟨pv, hs⟩ := h.sb
  refine h.rowed hs (v' := pv) (hs.bk.set _ _ (hx.s4 _ _ _)) (hs.row.same fun k e => Below.heap_setCell W _ _ k (hs.apart hx.ty e)) hx.ty (.inl rfl) (fun k h1 h2 h3 => Below.heap_setCell W _ _ k h2) rfl rfl rfl (by simp)
theorem SH.c4s (hx : Box vs o d f n t) (h : SH w W d O P vs b t D ps fl) : W.cell? ⟨b, o + 4, none⟩ = some (.bool fl) ∧ W.frozen? ⟨b, o + 4, none⟩ = false ∧ b < W.heap.size := by
  obtain ⟨pv, hs⟩ := h.sb
  exact ⟨hs.c4 hx, hs.bk.frozen _, hs.bk.lt⟩
/-- What Put tells, and leaves. -/
def PutQ (w : World) (d : Nat) (vs : Value → Bool → Array Value) (b : Nat) (t : TypeId) (O P : Nat → Nat) (W : World) (r : Rf) (e : Ending) (w' : World) : Prop :=
  e = .returned (.tuple #[.int .i64 r.v, .int .i64 r.e]) ∧ Post10 w d vs b t O P W r.D r.ps r.fl w'
set_option maxHeartbeats 4000000 in
theorem put10 (hx : Box vs o d f n t) (h : SH w W d O P vs b t D ps fl) {q : Nat} (hf : Few D q) (hq : q + 2 ≤ 1000) (hl : ps.length ≤ 128) (tx : ByteArray) :
    Calls Try.prog 29 #[.pointer (some ⟨b, o, none⟩), .string tx] W (PutQ w d vs b t O P W (putR f n tx D ps fl)) := by
  have HX : Hid (Box vs o d f n t) := hx
  have HH : Hid (SH w W d O P vs b t D ps fl) := h
  have hn1 := hx.n1
  obtain ⟨c4, c4f, lb⟩ := h.c4s hx
  have c2 := (h.c3s hx).2.2
  by_cases h1 : fl = true
  · subst h1
    have e : putR f n tx D ps true = ⟨14, 0, D, ps, true⟩ := by unfold putR; rw [if_pos rfl]
    rw [e]
    clear h e
    go_enter Try.func29, Try.ntmps29
    go_wp2_with fail
    go_ret2
    exact ⟨rfl, Post10.refl HH.out⟩
  have h1 : fl = false := by simpa using h1
  subst h1
  by_cases h2 : n < tx.size + 16
  · have e : putR f n tx D ps false = ⟨2, 0, D, ps, false⟩ := by unfold putR; rw [if_neg (by simp), if_pos h2]
    rw [e]
    have h2i : (n : Int) - 16 < (tx.size : Int) := by omega
    clear h e
    go_enter Try.func29, Try.ntmps29
    go_wp2_with fail
    go_ret2
    exact ⟨rfl, Post10.refl HH.out⟩
  have h2i : ¬ (n : Int) - 16 < (tx.size : Int) := by omega
  have HL : Hid (Calls Try.prog 64 #[.pointer (some ⟨b, o, none⟩)] W fun e w' => e = .returned (.int .i64 (low ps)) ∧ Below W.heap.size W w') := by
    obtain ⟨pv, hs⟩ := h.sb
    exact lowest10 hx hs (by omega)
  by_cases h3 : low ps = 128
  · have e : putR f n tx D ps false = ⟨5, 0, D, ps, false⟩ := by unfold putR; rw [if_neg (by simp), if_neg h2, if_pos h3]
    rw [e]
    rw [h3] at HL
    clear h e
    go_enter Try.func29, Try.ntmps29
    go_wp2_with (go_at_call 64; refine Calls.mono HL.out ?_; rintro e w8 ⟨rfl, hb8⟩; have HB8 : Hid (Below W.heap.size W w8) := hb8)
    go_ret2
    exact ⟨rfl, (Post10.refl (HH.out.below HB8.out)).below HH.out HB8.out⟩
  have hlow := low_take ps
  have h3i : ¬ ((low ps : Nat) : Int) = 128 := by omega
  have HLy : Hid (∀ w1, Below W.heap.size W w1 → Calls Try.prog 65 #[.pointer (some ⟨b, o, none⟩), .int .i64 ((low ps : Nat) : Int), .agg #[.int .u8 1, .string tx]] w1 fun e w' => e = .returned (.int .i64 (lyR f n (low ps) ⟨1, tx⟩ D ps).e) ∧ Post10 w d vs b t O P W (lyR f n (low ps) ⟨1, tx⟩ D ps).D (lyR f n (low ps) ⟨1, tx⟩ D ps).ps false w') := fun w1 h9 => by
    refine (lay10 hx (h.below h9) hf hq (by omega) (low ps) hlow ⟨1, tx⟩ (by show tx.size + 16 ≤ n; omega)).mono ?_
    rintro e w' ⟨rfl, hp⟩
    exact ⟨rfl, hp.pre (h.fp_below h9)⟩
  by_cases h4 : (lyR f n (low ps) ⟨1, tx⟩ D ps).e = 0
  · have e : putR f n tx D ps false = ⟨0, low ps, (lyR f n (low ps) ⟨1, tx⟩ D ps).D, (lyR f n (low ps) ⟨1, tx⟩ D ps).ps, false⟩ := by unfold putR; rw [if_neg (by simp), if_neg h2, if_neg h3]; simp only [ne_eq, h4, not_true_eq_false, if_false]
    rw [e]
    rw [h4] at HLy
    generalize lyR f n (low ps) ⟨1, tx⟩ D ps = R at *
    generalize low ps = lw at *
    clear h e h4
    go_enter Try.func29, Try.ntmps29
    go_wp2_with (first
      | (go_at_call 64; refine Calls.mono HL.out ?_; rintro e w8 ⟨rfl, hb8⟩; have HB8 : Hid (Below W.heap.size W w8) := hb8; clear hb8)
      | (go_at_call 65; refine Calls.mono (HLy.out _ HB8.out) ?_; rintro e w9 ⟨rfl, hp9⟩))
    go_ret2
    exact ⟨rfl, hp9⟩
  · have e : putR f n tx D ps false = ⟨(lyR f n (low ps) ⟨1, tx⟩ D ps).e, 0, (lyR f n (low ps) ⟨1, tx⟩ D ps).D, (lyR f n (low ps) ⟨1, tx⟩ D ps).ps, true⟩ := by unfold putR; rw [if_neg (by simp), if_neg h2, if_neg h3]; simp only [ne_eq, h4, not_false_eq_true, if_true]
    rw [e]
    generalize lyR f n (low ps) ⟨1, tx⟩ D ps = R at *
    have hne : (R.e != 0) = true := by rw [bne_iff_ne]; exact h4
    generalize low ps = lw at *
    have HP4 : Hid (∀ w9, Post10 w d vs b t O P W R.D R.ps false w9 → (Post10 w d vs b t O P W R.D R.ps true (w9.setCell ⟨b, o + 4, none⟩ (.bool true))) ∧ w9.cell? ⟨b, o + 4, none⟩ = some (.bool false) ∧ w9.frozen? ⟨b, o + 4, none⟩ = false ∧ b < w9.heap.size) := fun w9 hp => by
      obtain ⟨O9, P9, h9, f9⟩ := hp
      exact ⟨(h9.fail hx).pre f9, h9.c4s hx⟩
    clear h e h4 hx c4f
    generalize R.e = ev at *
    generalize R.D = D1 at *
    generalize R.ps = ps1 at *
    go_enter Try.func29, Try.ntmps29
    go_wp2_with (first
      | (go_at_call 64; refine Calls.mono HL.out ?_; rintro e w8 ⟨rfl, hb8⟩; have HB8 : Hid (Below W.heap.size W w8) := hb8; clear hb8)
      | (go_at_call 65; refine Calls.mono (HLy.out _ HB8.out) ?_; rintro e w9 ⟨rfl, hp9⟩; obtain ⟨hp4, d4, d4f, lb9⟩ := HP4.out w9 hp9; have HP : Hid (Post10 w d vs b t O P W D1 ps1 true (w9.setCell ⟨b, o + 4, none⟩ (.bool true))) := hp4; clear hp4 hp9))
    go_ret2
    exact ⟨rfl, HP.out⟩
def DelQ (w : World) (d : Nat) (vs : Value → Bool → Array Value) (b : Nat) (t : TypeId) (O P : Nat → Nat) (W : World) (r : Rf) (e : Ending) (w' : World) : Prop :=
  e = .returned (.int .i64 r.e) ∧ Post10 w d vs b t O P W r.D r.ps r.fl w'
theorem hasP_lt {i : Int} (h : hasP ps i = true) : 0 ≤ i ∧ i < (ps.length : Int) := by
  refine ⟨Classical.byContradiction fun h9 => ?_, Classical.byContradiction fun h9 => ?_⟩
  · rw [hasP_neg (by omega)] at h; cases h
  · rw [hasP_big (by omega)] at h; cases h
set_option maxHeartbeats 4000000 in
theorem del10 (hx : Box vs o d f n t) (h : SH w W d O P vs b t D ps fl) {q : Nat} (hf : Few D q) (hq : q + 2 ≤ 1000) (hl : ps.length ≤ 128) (i : Int) :
    Calls Try.prog 25 #[.pointer (some ⟨b, o, none⟩), .int .i64 i] W (DelQ w d vs b t O P W (delR f n i D ps fl)) := by
  have HX : Hid (Box vs o d f n t) := hx
  have HH : Hid (SH w W d O P vs b t D ps fl) := h
  obtain ⟨c4, c4f, lb⟩ := h.c4s hx
  by_cases h1 : fl = true
  · subst h1
    have e : delR f n i D ps true = ⟨14, 0, D, ps, true⟩ := by unfold delR; rw [if_pos rfl]
    rw [e]
    clear h e
    go_enter Try.func25, Try.ntmps25
    go_wp2_with fail
    go_ret
    exact ⟨rfl, Post10.refl HH.out⟩
  have h1 : fl = false := by simpa using h1
  subst h1
  have HHs : Hid (Calls Try.prog 60 #[.pointer (some ⟨b, o, none⟩), .int .i64 i] W fun e w' => e = .returned (.bool (hasP ps i)) ∧ w' = W) := by
    obtain ⟨pv, hs⟩ := h.sb
    exact has10 hx hs i
  by_cases h2 : hasP ps i = false
  · have e : delR f n i D ps false = ⟨3, 0, D, ps, false⟩ := by unfold delR; rw [if_neg (by simp), if_pos h2]
    rw [e]
    rw [h2] at HHs
    clear h e
    go_enter Try.func25, Try.ntmps25
    go_wp2_with (go_at_call 60; refine Calls.mono HHs.out ?_; rintro e w8 ⟨rfl, hw8⟩; have hw8 := hw8.symm; subst hw8)
    go_ret
    exact ⟨rfl, Post10.refl HH.out⟩
  have h2 : hasP ps i = true := by simpa using h2
  have hlt := hasP_lt h2
  obtain ⟨j, rfl⟩ : ∃ j : Nat, i = j := ⟨i.toNat, by omega⟩
  rw [h2] at HHs
  have HM : Hid (Calls Try.prog 61 #[.pointer (some ⟨b, o, none⟩), .int .i64 (j : Int), .agg #[.int .u8 0, .string ⟨#[]⟩]] W fun e w' => e = .returned (.int .i64 (mkR f n j pl0 D ps).e) ∧ Post10 w d vs b t O P W (mkR f n j pl0 D ps).D (mkR f n j pl0 D ps).ps false w') := mark10 hx h hf (by omega) (by omega) j (by omega) pl0
  by_cases h4 : (mkR f n j pl0 D ps).e = 0
  · have e : delR f n j D ps false = ⟨0, 0, (mkR f n j pl0 D ps).D, (mkR f n j pl0 D ps).ps, false⟩ := by unfold delR; rw [if_neg (by simp), if_neg (by rw [h2]; simp), Int.toNat_natCast]; simp only [ne_eq, h4, not_true_eq_false, if_false]
    rw [e]
    rw [h4] at HM
    generalize mkR f n j pl0 D ps = R at *
    clear h e h4
    go_enter Try.func25, Try.ntmps25
    go_wp2_with (first
      | (go_at_call 60; refine Calls.mono HHs.out ?_; rintro e w8 ⟨rfl, hw8⟩; have hw8 := hw8.symm; subst hw8)
      | (go_at_call 61; refine Calls.mono HM.out ?_; rintro e w9 ⟨rfl, hp9⟩))
    go_ret
    exact ⟨rfl, hp9⟩
  · have e : delR f n j D ps false = ⟨(mkR f n j pl0 D ps).e, 0, (mkR f n j pl0 D ps).D, (mkR f n j pl0 D ps).ps, true⟩ := by unfold delR; rw [if_neg (by simp), if_neg (by rw [h2]; simp), Int.toNat_natCast]; simp only [ne_eq, h4, not_false_eq_true, if_true]
    rw [e]
    generalize mkR f n j pl0 D ps = R at *
    have hne : (R.e != 0) = true := by rw [bne_iff_ne]; exact h4
    have HP4 : Hid (∀ w9, Post10 w d vs b t O P W R.D R.ps false w9 → (Post10 w d vs b t O P W R.D R.ps true (w9.setCell ⟨b, o + 4, none⟩ (.bool true))) ∧ w9.cell? ⟨b, o + 4, none⟩ = some (.bool false) ∧ w9.frozen? ⟨b, o + 4, none⟩ = false ∧ b < w9.heap.size) := fun w9 hp => by
      obtain ⟨O9, P9, h9, f9⟩ := hp
      exact ⟨(h9.fail hx).pre f9, h9.c4s hx⟩
    clear h e h4 hx c4f
    generalize R.e = ev at *
    generalize R.D = D1 at *
    generalize R.ps = ps1 at *
    go_enter Try.func25, Try.ntmps25
    go_wp2_with (first
      | (go_at_call 60; refine Calls.mono HHs.out ?_; rintro e w8 ⟨rfl, hw8⟩; have hw8 := hw8.symm; subst hw8)
      | (go_at_call 61; refine Calls.mono HM.out ?_; rintro e w9 ⟨rfl, hp9⟩; obtain ⟨hp4, d4, d4f, lb9⟩ := HP4.out w9 hp9; have HP : Hid (Post10 w d vs b t O P W D1 ps1 true (w9.setCell ⟨b, o + 4, none⟩ (.bool true))) := hp4; clear hp4 hp9))
    go_ret
    exact ⟨rfl, HP.out⟩
end
end Go.Proofs.Ytjbhegakgdcldaa
end

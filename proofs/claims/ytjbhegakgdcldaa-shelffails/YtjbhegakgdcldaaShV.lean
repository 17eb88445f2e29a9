import Derived.Test.YtjbhegakgdcldaaJ11
import Derived.Test.YtjbhegakgdcldaaJ2
set_option linter.unusedSimpArgs false
set_option linter.unusedVariables false
set_option maxRecDepth 100000
namespace Go.Proofs.Ytjbhegakgdcldaa
open Go.RowKit Go.Shelf
attribute [local go_sem] Oper.semAt_some

/-! tarnlaw10.entries. -/
theorem wpListIn_append_src {F : Fence} {nf : Nat} {P : Program} {w : World} {ops : Array Oper} {rest : List Oper} {o : Oper} {a : Act} {Q : Exit → Act → World → Prop} (hgd : o.guard = none) (s x : Operand) (t tx : TypeId)
    (ho : o.op = .call { callee := .builtin .append, args := #[s, x], argTypes := #[t, tx] })
    (base : Nat) (e : TypeId) (i : TypeInfo) (z : Value) (size bytes : Nat) (ht : P.underlying t = some (.slice e)) (hi : P.info? e = some i) (hz : i.zero = some z)
    (hsize : i.size = size) (hby : i.bytes = bytes) (hzs : z.cells.size = size)
    (v xv : Value) (n : Nat) (xs : List Value) (m : Nat) (news : List Value) (hs : a.eval s = v) (hx : a.eval x = xv) (hown : w.ownsRow base e size v n xs) (hsrc : Src P size tx xv m news w)
    (h63 : n + m ≤ maxLen) (hbytes : (n + m) * bytes ≤ 140737488355328) (hbase : base ≤ w.heap.size)
    (h : ∀ v' w', w'.ownsRow base e size v' (n + m) (xs ++ news) → w.grownBy w' v.ownBlock → Sn w v v' → wpListIn F nf P ops Q rest (a.put o.dst v') w') : wpListIn F nf P ops Q (o :: rest) a w := by
  refine wpListIn_plain hgd fun K hK' => ?_
  obtain ⟨v', w', hr, h2, h3, h4⟩ := run_append_own_src (P := P) w base t tx o.type e i z size bytes ht hi hz hsize hby hzs v n xs hown xv m news hsrc h63 hbytes hbase
  unfold Oper.wpIn
  refine ⟨by simp [Oper.about, ho, resolve, Target.leads, Sem.run_pure], ?_⟩
  rw [Oper.semAt_plain F a.eval o (by rw [ho]; intro c; simp)]
  unfold execOp
  simp only [ho, resolve, invoke, builtin, Sem.run_bind, Sem.run_pure, Result.andThen_ok, List.map_toArray, List.map_cons, List.map_nil, hs, hx, hr]
  exact hK' _ _ (h v' w' h2 h3 h4)
theorem run_equalIn_func_nil10 (w : World) (d : Nat) (fn : Fn) (p q : Array Value) : (Op.equalIn (d + 1) 103 (Value.func fn p q) Value.nilFunc).run Try.prog w = .ok false w := by
  simp [Op.equalIn, run_underlying Try.underlying103]
theorem run_eql_func_nil10 (w : World) (fn : Fn) (p q : Array Value) : (binOp BinOp.eql 103 (Value.func fn p q) Value.nilFunc).run Try.prog w = .ok (.bool false) w := by
  simp only [binOp]
  simp [Op.equal, Op.maxDepth, run_equalIn_func_nil10 w 9999 fn p q]
theorem infoEn : (Try.prog.info? 43).map (fun i => (i.zero, i.size, i.bytes)) = some (some (.agg #[.int .i64 0, .string ⟨#[]⟩]), 2, 24) := by kernel_rfl
def ecl (x : Ent) : List Value := [.int .i64 (x.1 : Int), .string x.2]
theorem ecl_length (l : List Ent) : (l.flatMap ecl).length = l.length * 2 := by
  induction l with
  | nil => rfl
  | cons p l ih => simp only [List.flatMap_cons, List.length_append, ih, List.length_cons]; simp [ecl]; omega
def RowE (W : World) (base : Nat) (v : Value) (l : List Ent) : Prop := W.ownsRow base 43 2 v l.length (l.flatMap ecl)
theorem RowE.shape {W : World} {base : Nat} {v : Value} {l : List Ent} (h : RowE W base v l) : ∃ ad cap, v = .slice ad l.length cap ∧ l.length ≤ cap := by
  rcases h.2 with ⟨rfl, hz⟩ | ⟨g, cap, cur, rfl, _, _, hc, _⟩
  · exact ⟨none, 0, by rw [hz], by omega⟩
  · exact ⟨_, cap, rfl, hc⟩
theorem RowE.block {W : World} {base : Nat} {v : Value} {l : List Ent} (h : RowE W base v l) {k : Nat} (hk : v.ownBlock = some k) : ∃ cur, W.heap[k]? = some (.cells cur 43) := by
  rcases h.2 with ⟨rfl, _⟩ | ⟨g, cap, cur, rfl, _, hh, _⟩
  · simp [Value.ownBlock] at hk
  · simp [Value.ownBlock] at hk; subst hk; exact ⟨cur, hh⟩
theorem RowE.ge {W : World} {base : Nat} {v : Value} {l : List Ent} (h : RowE W base v l) {k : Nat} (hk : v.ownBlock = some k) : base ≤ k ∧ k < W.heap.size := World.ownsRow.lt h k hk
theorem one_en {W : World} {g : Nat} {x : Ent} (hb : Bk W g #[.int .i64 (x.1 : Int), .string x.2] 43) : Src Try.prog 2 35 (.slice (some ⟨g, 0, none⟩) 1 1) 1 (ecl x) W := by
  have c0 := hb.cell 0
  have c1 := hb.cell 1
  simp only [List.getElem?_toArray, List.getElem?_cons_zero, List.getElem?_cons_succ] at c0 c1
  refine Src.ofSlice W Try.underlying35 ⟨g, 0, none⟩ 1 1 (ecl x) rfl (fun j u hj => ?_) (fun u hu => ?_)
  · rw [Addr.add_lit, Nat.zero_add]
    match j with
    | 0 => simp [ecl] at hj; subst hj; exact c0
    | 1 => simp [ecl] at hj; subst hj; exact c1
    | j + 2 => simp [ecl] at hj
  · simp [ecl] at hu
    rcases hu with rfl | rfl <;> rfl
theorem en_after {A w3 : World} {bs n c q0 : Nat} {v3 va vb : Value} {t2 : TypeId} {L : List Value} {o : Obj} (hb : Bk A q0 #[va] t2) (hown3 : w3.ownsRow bs c 2 v3 (n + 1) L) (hgr3 : (A.alloc o).grownBy w3 vb.ownBlock) (hq : ∀ q, vb.ownBlock = some q → q ≠ q0) :
    ∃ g cap, v3 = .slice (some ⟨g, 0, none⟩) (n + 1) cap ∧ Bk w3 q0 #[va] t2 := by
  have h : Bk w3 q0 #[va] t2 := (hgr3.block q0 (hb.alloc o).lt (fun e => hq q0 e.symm rfl)).trans (hb.alloc o)
  rcases hown3.2 with ⟨_, hz⟩ | ⟨g, cap, _, e, _⟩
  · exact absurd hz (by omega)
  · exact ⟨g, cap, e, h⟩
/-- Under way. -/
structure EI10 (W : World) (X : Nat) (g : Option Nat) (n : Nat) (pre : List Ent) (A : World) : Prop where
  b0 : Bk A W.heap.size #[.int .i64 (n : Int)] 3
  ex : ∃ v, Bk A (W.heap.size + 1) #[v] 35 ∧ RowE A W.heap.size v pre ∧ (∀ k, v.ownBlock = some k → k ≠ X ∧ g ≠ some k)
  bel : Below W.heap.size W A
  lt : X < A.heap.size ∧ ∀ k, g = some k → k < A.heap.size
  le : pre.length ≤ n
theorem EI10.below {W A B : World} {X n : Nat} {g : Option Nat} {pre : List Ent} (h : EI10 W X g n pre A) (hb : Below A.heap.size A B) : EI10 W X g n pre B := by
  obtain ⟨v, h1, h2, h3⟩ := h.ex
  exact ⟨h.b0.below hb h.b0.lt, ⟨v, h1.below hb h1.lt, ownsRow_same h2 fun k hk => hb.block k (h2.ge hk).2, h3⟩, h.bel.trans (hb.mono h.bel.size), ⟨Nat.lt_of_lt_of_le h.lt.1 hb.size, fun k hk => Nat.lt_of_lt_of_le (h.lt.2 k hk) hb.size⟩, h.le⟩
theorem EI10.put {W A : World} {X n l : Nat} {g : Option Nat} {pre : List Ent} {x x' : Obj} (h : EI10 W X g n pre A) (hl0 : W.heap.size ≤ l) (hl : A.heap[l]? = some x) (hc : x.isCells = false) : EI10 W X g n pre (A.putObj l x') := by
  obtain ⟨v, h1, h2, h3⟩ := h.ex
  refine ⟨bk_put9 h.b0 hl hc, ⟨v, bk_put9 h1 hl hc, ownsRow_same h2 fun k hk => World.putObj_heap_other (fun e => ?_), h3⟩, h.bel.trans (below_put A _ hl0), ⟨by simp [World.putObj]; exact h.lt.1, fun k hk => by simp [World.putObj]; exact h.lt.2 k hk⟩, h.le⟩
  obtain ⟨cur, e2⟩ := h2.block hk
  rw [e, hl] at e2; simp at e2; subst e2; simp [Obj.isCells] at hc
theorem EI10.step {W A w3 : World} {X n : Nat} {g : Option Nat} {pre : List Ent} {x : Ent} {v v3 : Value} {o : Obj} (h : EI10 W X g n pre A) (hn : pre.length < n) (hc : Bk A (W.heap.size + 1) #[v] 35) (hr : RowE A W.heap.size v pre)
    (hN : ∀ q, v.ownBlock = some q → q ≠ W.heap.size ∧ q ≠ W.heap.size + 1 ∧ q ≠ X ∧ g ≠ some q ∧ q < A.heap.size) (hX : W.heap.size + 1 ≠ X ∧ ∀ k, g = some k → k ≠ W.heap.size + 1)
    (hw3 : w3.ownsRow W.heap.size 43 2 v3 (pre.length + 1) (pre.flatMap ecl ++ ecl x)) (hgr : (A.alloc o).grownBy w3 v.ownBlock) (hsn : Sn (A.alloc o) v v3) (B : Nat) :
    KeepsFrom B A (w3.setCell ⟨W.heap.size + 1, 0, none⟩ v3) ∧ KpK X g A (w3.setCell ⟨W.heap.size + 1, 0, none⟩ v3) ∧ EI10 W X g n (pre ++ [x]) (w3.setCell ⟨W.heap.size + 1, 0, none⟩ v3) := by
  have hz : (A.alloc o).heap.size = A.heap.size + 1 := by simp
  have hzw : (w3.setCell ⟨W.heap.size + 1, 0, none⟩ v3).heap.size = w3.heap.size := by simp
  have hkk : ∀ k, k < A.heap.size → v.ownBlock ≠ some k → w3.heap[k]? = A.heap[k]? := fun k hk hne => (hgr.block k (by omega) (fun e => hne e.symm)).trans (Below.heap_alloc A o k hk)
  have hkz : ∀ k, k < A.heap.size → v.ownBlock ≠ some k → k ≠ W.heap.size + 1 → (w3.setCell ⟨W.heap.size + 1, 0, none⟩ v3).heap[k]? = A.heap[k]? := fun k hk hne h1 => (Below.heap_setCell w3 _ _ k h1).trans (hkk k hk hne)
  have hs3 := hgr.size
  have hWA := h.bel.size
  refine ⟨(((KeepsOthers.alloc A o).trans (KeepsOthers.of_grownBy hgr fun j o' ej hj => ?_)).trans (KeepsOthers.setCell _ _ _)).from _, ⟨hkz X h.lt.1 (fun e => (hN X e).2.2.1 rfl) (fun e => hX.1 e.symm), fun k hk => hkz k (h.lt.2 k hk) (fun e => (hN k e).2.2.2.1 hk) (hX.2 k hk)⟩, ?_⟩
  · obtain ⟨cur, e⟩ := hr.block ej
    rw [Below.heap_alloc A o j (hN j ej).2.2.2.2, e] at hj
    cases hj; rfl
  · have c3 : Bk w3 (W.heap.size + 1) #[v] 35 := (hkk _ hc.lt (fun e => (hN _ e).2.1 rfl)).trans hc
    have h3q : ∀ q, v3.ownBlock = some q → q ≠ W.heap.size + 1 ∧ q ≠ X ∧ g ≠ some q := by
      intro q hq
      rcases hsn with e | e
      · have := hN q (by rw [← e]; exact hq)
        exact ⟨this.2.1, this.2.2.1, this.2.2.2.1⟩
      · have h1 := e q hq
        have h2 := h.lt
        have h3 := hc.lt
        exact ⟨by omega, by omega, fun e => by have := h2.2 q e; omega⟩
    refine ⟨(hkz _ h.b0.lt (fun e => (hN _ e).1 rfl) (by omega)).trans h.b0, ⟨v3, c3.set 0 _ (by simp), ?_, fun k hk => (h3q k hk).2⟩, ?_, ⟨by rw [hzw]; have := h.lt.1; omega, fun k hk => by rw [hzw]; have := h.lt.2 k hk; omega⟩, by simp; omega⟩
    · have e2 : (pre ++ [x]).flatMap ecl = pre.flatMap ecl ++ ecl x := by simp
      have e3 : (pre ++ [x]).length = pre.length + 1 := by simp
      show World.ownsRow _ _ _ _ _ _ _
      rw [e2, e3]
      exact ownsRow_same hw3 fun q hq => Below.heap_setCell w3 _ _ q (h3q q hq).1
    · exact ((h.bel.alloc hWA o).grown hgr (by omega) (fun k e => (hr.ge e).1)).setCell (p := ⟨W.heap.size + 1, 0, none⟩) (by simp) v3
section
variable {W : World} {P : Nat → Nat} {vs : Value → Bool → Array Value} {b o d f n : Nat} {t : TypeId} {pv : Value} {ps : List Pl} {fl : Bool}
/-- What entries tells: so many of them, in memory of its own. -/
def EnQ (W : World) (l : List Ent) (e : Ending) (w' : World) : Prop := ∃ v, e = .returned v ∧ RowE w' W.heap.size v l ∧ Below W.heap.size W w'
set_option maxHeartbeats 8000000 in
theorem entries10 (hx : Box vs o d f n t) (h : SB W P vs b t pv ps fl) (hl : ps.length ≤ 128) (m : Nat) (hm : m ≤ 1000000) (ho : o = 0) :
    Calls Try.prog 30 #[.pointer (some ⟨b, o, none⟩), .int .i64 (m : Int)] W (EnQ W ((ents 0 ps).take m)) := by
  subst ho
  have HA : Hid (∀ A, Below W.heap.size W A → Calls Try.prog 66 #[.pointer (some ⟨b, 0, none⟩)] A (AllQ A ps)) := fun A hA => all10 hx (h.same fun k hk => hA.block k (h.lt k hk)) (by omega)
  clear h hx
  have heq := fun w fn p q => run_eql_func_nil10 w fn p q
  refine (callsIn_wide (n := 6)).1 ?_
  refine callsIn_of_wp_marks Try.func30 rfl trivial ?_ rfl
  simp only [Try.ntmps30, List.size_toArray, List.length_cons, List.length_nil, Nat.reduceAdd, Nat.reduceSub, Array.replicate_succ, Array.replicate_zero, List.push_toArray, List.append_toArray, List.nil_append, List.cons_append]
  have HB1 : Hid (Below W.heap.size W ((W.alloc (.cells #[.int .i64 (m : Int)] 3)).alloc (.cells #[.slice none 0 0] 35))) := ((Below.refl _ W).alloc (Nat.le_refl _) _).alloc (by simp) _
  have HB2 : Hid (Bk ((W.alloc (.cells #[.int .i64 (m : Int)] 3)).alloc (.cells #[.slice none 0 0] 35)) W.heap.size #[.int .i64 (m : Int)] 3 ∧ Bk ((W.alloc (.cells #[.int .i64 (m : Int)] 3)).alloc (.cells #[.slice none 0 0] 35)) (W.heap.size + 1) #[.slice none 0 0] 35) := ⟨(Bk.new _ _ _).alloc _, Bk.new' _ _ _ (by simp)⟩
  gi_wp2_with (refine ⟨trivial, ?_⟩; gi_at_call 66; refine (callsIn_wide.2 (HA.out _ HB1.out)).mono ?_; rintro e w9 ⟨X, v9, rfl, bX, hrow, hXge, hb9⟩)
  have hz2 : ((W.alloc (.cells #[.int .i64 (m : Int)] 3)).alloc (.cells #[.slice none 0 0] 35)).heap.size = W.heap.size + 2 := by simp
  have HB9 : Hid (Below W.heap.size W w9) := HB1.out.trans (hb9.mono HB1.out.size)
  have h0 : EI10 W X v9.ownBlock m [] w9 := by
    refine ⟨HB2.out.1.below hb9 (by omega), ⟨.slice none 0 0, HB2.out.2.below hb9 (by omega), World.ownsRow_nil _ _ _ _, fun k hk => by simp [Value.ownBlock] at hk⟩, HB9.out, ⟨bX.lt, fun k hk => (hrow.ge hk).2⟩, Nat.zero_le _⟩
  have HW9 : Hid (W.heap.size ≤ w9.heap.size) := HB9.out.size
  rw [hz2] at hrow hXge
  have HNe : Hid (W.heap.size + 1 ≠ X ∧ ∀ k, v9.ownBlock = some k → k ≠ W.heap.size + 1) := ⟨by omega, fun k hk e => by have := (hrow.ge hk).1; omega⟩
  have hle : (ents 0 ps).length ≤ ps.length := ents_le 0 ps
  have HLe : Hid ((ents 0 ps).length ≤ 128) := Nat.le_trans hle hl
  refine wpIn_rangeP rfl (by omega) (gf := 86) (lb := #[.pointer (some ⟨X, 0, none⟩)]) rfl trivial (enters_of Try.func86 rfl rfl)
    (all_seq _ X v9 ps _ (by omega) (by omega) w9 bX hrow) KpK.trans (KpK.put bX.lt (fun k hk => (hrow.ge hk).2)) (Below.refl _ _) (fun _ => rfl)
    (fun pre A => EI10 W X v9.ownBlock m pre A) (fun c pre A => c = .exit 0 ∧ ∃ zs z, pre = zs ++ [z] ∧ zs.length = m ∧ EI10 W X v9.ownBlock m zs A) (fun s A B h hb => h.below hb) (fun c s A B h hb => by obtain ⟨h1, zs, z, h2, h3, h4⟩ := h; exact ⟨h1, zs, z, h2, h3, h4.below hb⟩) (fun s A l o o' hl h hc hi => hi.put (Nat.le_trans HW9.out hl) h hc) (fun c s A l o o' hl h hc hi => by obtain ⟨h1, zs, z, h2, h3, h4⟩ := hi; exact ⟨h1, zs, z, h2, h3, h4.put (Nat.le_trans HW9.out hl) h hc⟩) h0
    (fun pre x a' A => AGd ps pre x ∧ a' = { tmps := #[.pointer (some ⟨b, 0, none⟩), .int .i64 (m : Int), undef, .pointer (some ⟨W.heap.size, 0, none⟩), .slice none 0 0, .pointer (some ⟨W.heap.size + 1, 0, none⟩), .func (.func 86) #[] #[.pointer (some ⟨X, 0, none⟩)], .int .i64 (x.1 : Int), .string x.2, .pointer (some ⟨b, 0, none⟩), .func (.func 86) #[] #[.pointer (some ⟨X, 0, none⟩)], .func (.func 86) #[] #[.pointer (some ⟨X, 0, none⟩)], .bool false, .func (.func 86) #[] #[.pointer (some ⟨X, 0, none⟩)], .int .i64 (x.1 : Int), .string x.2, undef, undef, undef, undef, undef, undef, undef, undef, undef, undef, undef], defers := [] }) (fun pre x a' A l o o' hl h hc hx => hx) ?assign ?body ?done ?stop
  case assign =>
    intro l pre x A0 A K hi0 hbA hgd hi hK
    simp only [aenc]
    gi_wp2
    exact hK _ _ (KeepsFrom.refl _ _) (KpK.refl _ _ _) hi ⟨hgd, rfl⟩
  case body =>
    rintro l pre x a' A hi ⟨hgd, rfl⟩
    have HIi : Hid (EI10 W X v9.ownBlock m pre A) := hi
    obtain ⟨c0, ⟨v, c1, cr, cne⟩, cb, clt, cle⟩ := hi
    obtain ⟨ad, cp, rfl, hcp⟩ := cr.shape
    obtain ⟨r, hr⟩ := hgd
    have hpl : pre.length < 128 := by have h := congrArg List.length hr; simp at h; have := HLe.out; omega
    have y0 := c0.cell 0
    have y1 := c1.cell 0
    have yf0 := c0.frozen 0
    have yf1 := c1.frozen 0
    have yl0 := c0.lt
    have yl1 := c1.lt
    simp only [List.getElem?_toArray, List.getElem?_cons_zero] at y0 y1
    have c0' : A.heap[W.heap.size]? = _ := c0
    have c1' : A.heap[W.heap.size + 1]? = _ := c1
    have HCr : Hid (RowE A W.heap.size (.slice ad pre.length cp) pre) := cr
    have HC : Hid (Bk A W.heap.size #[.int .i64 (m : Int)] 3 ∧ Bk A (W.heap.size + 1) #[.slice ad pre.length cp] 35) := ⟨c0, c1⟩
    clear c0 c1 h0 hrow bX clt cb
    have HSrc : Hid (Src Try.prog 2 35 (.slice (some ⟨A.heap.size, 0, none⟩) 1 1) 1 (ecl x) (A.alloc (.cells #[.int .i64 (x.1 : Int), .string x.2] 43))) := one_en (Bk.new _ _ _)
    obtain ⟨i0, hi1, hi2, hi3, hi4⟩ : ∃ i0, Try.prog.info? 43 = some i0 ∧ i0.zero = some (.agg #[.int .i64 0, .string ⟨#[]⟩]) ∧ i0.size = 2 ∧ i0.bytes = 24 := by have h := infoEn; revert h; cases Try.prog.info? 43 with | none => intro h; simp at h | some i => intro h; simp at h; exact ⟨i, rfl, h.1, h.2.1, h.2.2⟩
    have HIn : Hid (Try.prog.info? 43 = some i0 ∧ i0.zero = some (.agg #[.int .i64 0, .string ⟨#[]⟩]) ∧ i0.size = 2 ∧ i0.bytes = 24) := ⟨hi1, hi2, hi3, hi4⟩
    clear hi1 hi2 hi3 hi4
    have HRow : Hid ((A.alloc (.cells #[.int .i64 (x.1 : Int), .string x.2] 43)).ownsRow W.heap.size 43 2 (.slice ad pre.length cp) pre.length (pre.flatMap ecl)) := cr.alloc _
    have HNx : Hid (pre ++ [x] = pre ++ [x] ∧ (pre ++ [x]).flatMap ecl = pre.flatMap ecl ++ ecl x ∧ (pre ++ [x]).length = pre.length + 1) := ⟨rfl, by simp, by simp⟩
    have HNb : Hid (∀ q, (Value.slice ad pre.length cp).ownBlock = some q → q ≠ W.heap.size ∧ q ≠ W.heap.size + 1 ∧ q ≠ X ∧ v9.ownBlock ≠ some q ∧ q < A.heap.size) := by
      show ∀ q, _
      intro q hq
      obtain ⟨cur, e⟩ := cr.block hq
      have e0 := c0'
      have e1 := c1'
      refine ⟨fun h => ?_, fun h => ?_, (cne q hq).1, (cne q hq).2, (cr.ge hq).2⟩
      · rw [h, e0] at e; simp at e
      · rw [h, e1] at e; simp at e
    clear cr cne c0' c1'
    by_cases hn : pre.length = m
    · subst hn
      gi_wp2
      exact ⟨KeepsFrom.refl _ _, rfl, pre, ⟨x.1, x.2, rfl⟩, rfl, HIi.out⟩
    · have hne : ((pre.length : Int) == (m : Int)) = false := by rw [beq_eq_false_iff_ne]; omega
      gi_wp2_with (gi_at_builtin; refine wpListIn_append_src rfl _ _ 35 35 rfl W.heap.size 43 i0 (.agg #[.int .i64 0, .string ⟨#[]⟩]) 2 24 Try.underlying35 HIn.out.1 HIn.out.2.1 HIn.out.2.2.1 HIn.out.2.2.2 rfl (.slice ad pre.length cp) (.slice (some ⟨A.heap.size, 0, none⟩) 1 1) pre.length (pre.flatMap ecl) 1 (ecl x) rfl rfl HRow.out HSrc.out (by unfold maxLen; omega) (by omega) (by simp; omega) ?_; intro v3 w3 hown3 hgr3 hsn3; obtain ⟨g3, cap3, rfl, b4⟩ := en_after HC.out.2 hown3 hgr3 (fun q hq => (HNb.out q hq).2.1); have v40 := b4.cell 0; have vf40 := b4.frozen 0; have lv4 := b4.lt; simp only [List.getElem?_toArray, List.getElem?_cons_zero] at v40; have HG3 : Hid (w3.ownsRow W.heap.size 43 2 (.slice (some ⟨g3, 0, none⟩) (pre.length + 1) cap3) (pre.length + 1) (pre.flatMap ecl ++ ecl x) ∧ (A.alloc (.cells #[.int .i64 (x.1 : Int), .string x.2] 43)).grownBy w3 (Value.slice ad pre.length cp).ownBlock ∧ Sn (A.alloc (.cells #[.int .i64 (x.1 : Int), .string x.2] 43)) (.slice ad pre.length cp) (.slice (some ⟨g3, 0, none⟩) (pre.length + 1) cap3)) := ⟨hown3, hgr3, hsn3⟩; clear b4 hown3 hgr3 hsn3)
      have hlt : pre.length < m := by have := HIi.out.le; omega
      exact HIi.out.step hlt HC.out.2 HCr.out HNb.out HNe.out HG3.out.1 HG3.out.2.1 HG3.out.2.2 _
  case done =>
    rintro D xs A hD hS hi hK
    have HE : Hid (∃ v, Bk A (W.heap.size + 1) #[v] 35 ∧ RowE A W.heap.size v ((ents 0 ps).take m) ∧ Below W.heap.size W A) := by
      obtain ⟨v, h1, h2, h3⟩ := hi.ex
      have hl2 := hi.le
      subst hS
      refine ⟨v, h1, ?_, hi.bel⟩
      rw [List.take_of_length_le hl2]
      exact h2
    clear h0 hrow bX hi hS
    obtain ⟨v, hv1, hv2, hv3⟩ := HE.out
    have y1 := hv1.cell 0
    have yf1 := hv1.frozen 0
    have yl1 := hv1.lt
    simp only [List.getElem?_toArray, List.getElem?_cons_zero] at y1
    have HV : Hid (RowE A W.heap.size v ((ents 0 ps).take m) ∧ Below W.heap.size W A) := ⟨hv2, hv3⟩
    clear hv1 hv2 hv3
    gi_wp2
    refine ⟨by simp, .inl ⟨_, _, rfl, run_takeDeferred hK, ?_⟩⟩
    refine ⟨v, by simp [results, Try.f30, go_sem], v, rfl, ?_, HV.out.2.trans (below_put A _ (Nat.le_trans HW9.out hD))⟩
    refine ownsRow_same HV.out.1 fun k hk => World.putObj_heap_other (fun e => ?_)
    obtain ⟨cur, e2⟩ := HV.out.1.block hk
    rw [e, hK] at e2
    simp at e2
  case stop =>
    rintro D c pre A hD hSp ⟨rfl, zs, z, hpre, hzl, hi⟩ hK
    have HE : Hid (∃ v, Bk A (W.heap.size + 1) #[v] 35 ∧ RowE A W.heap.size v ((ents 0 ps).take m) ∧ Below W.heap.size W A) := by
      obtain ⟨v, h1, h2, h3⟩ := hi.ex
      refine ⟨v, h1, ?_, hi.bel⟩
      obtain ⟨p2, x2, e2, r2, hr2⟩ := hSp
      have e3 : (ents 0 ps).take m = zs := by
        have : p2 = zs := by
          have h7 := e2.symm.trans hpre
          exact (List.append_inj' h7 rfl).1
        rw [hr2, this, ← hzl]
        simp
      rw [e3]
      exact h2
    clear h0 hrow bX hi hSp hpre hzl
    obtain ⟨v, hv1, hv2, hv3⟩ := HE.out
    have y1 := hv1.cell 0
    have yf1 := hv1.frozen 0
    have yl1 := hv1.lt
    simp only [List.getElem?_toArray, List.getElem?_cons_zero] at y1
    have HV : Hid (RowE A W.heap.size v ((ents 0 ps).take m) ∧ Below W.heap.size W A) := ⟨hv2, hv3⟩
    clear hv1 hv2 hv3
    gi_wp2
    refine ⟨by simp, .inl ⟨_, _, rfl, run_takeDeferred hK, ?_⟩⟩
    refine ⟨v, by simp [results, Try.f30, go_sem], v, rfl, ?_, HV.out.2.trans (below_put A _ (Nat.le_trans HW9.out hD))⟩
    refine ownsRow_same HV.out.1 fun k hk => World.putObj_heap_other (fun e => ?_)
    obtain ⟨cur, e2⟩ := HV.out.1.block hk
    rw [e, hK] at e2
    simp at e2
end
end Go.Proofs.Ytjbhegakgdcldaa

/- Texts joined: DY9 DZ9 DE9. -/
import Derived.Test.YtljhhdpeakencaaJ10
section
set_option linter.unusedSimpArgs false
set_option linter.unusedVariables false
namespace Go.Proofs.Ytljhhdpeakencaa
open Go.RowKit

/-! Both disks, and the act at hand. -/
structure DY (w W : World) (d r X : Nat) (O P : Nat → Nat) (D E : Ds) (vs : Array Value) : Prop where
  dx : DX w W d r O P D E
  bx : Bk W X vs 40
  ox : O X = 0
  px : P X = 0
section
variable {w W W' : World} {d r X : Nat} {O P O' P' : Nat → Nat} {D E D' E' : Ds} {vs : Array Value}
theorem DX.d1 (h : DX w W d r O P D E) : D1 w W d O D := ⟨h.dk, h.lo, h.bel⟩
theorem DX.bnd (h : DX w W d r O P D E) : D.tO ≤ 9223372036854775807 ∧ D.tF ≤ 9223372036854775807 := by obtain ⟨_, _, _, h⟩ := h.dk; exact ⟨h.bO, h.bF⟩
theorem DY.below (h : DY w W d r X O P D E vs) (hb : Below W.heap.size W W') : DY w W' d r X O P D E vs := ⟨h.dx.below hb, h.bx.below hb h.bx.lt, h.ox, h.px⟩
theorem DY.drew (h : DY w W d r X O P D E vs) : DY w W.drew d r X O P D E vs := h.below (Below.refl _ _).drew
theorem DY.prog (h : DY w W d r X O P D E vs) (dk' : ∃ nv sv cv, DK W' O' d D' nv sv cv) (hf : Fp O W O' W') : DY w W' d r X O' P D' E vs :=
  ⟨h.dx.prog dk' hf, hf.bk h.bx h.ox, hf.old X h.bx.lt h.ox, h.px⟩
theorem DY.page (h : DY w W d r X O P D E vs) (pk' : PKw W' P' r E') (hf : Fp P W P' W') : DY w W' d r X O P' D E' vs :=
  ⟨h.dx.page pk' hf, hf.bk h.bx h.px, h.ox, hf.old X h.bx.lt h.px⟩
theorem DY.grown (h : DY w W d r X O P D E vs) {row : Option Nat} (hg : W.grownBy W' row) (hr : ∀ b, row = some b → O b = 0 ∧ P b = 0 ∧ w.heap.size ≤ b ∧ b ≠ X) : DY w W' d r X O P D E vs :=
  ⟨h.dx.grown hg (fun b e => ⟨(hr b e).1, (hr b e).2.1, (hr b e).2.2.1⟩), h.bx.grown hg (fun e => (hr X e.symm).2.2.2 rfl), h.ox, h.px⟩
theorem DY.old (h : DY w W d r X O P D E vs) {b : Nat} (hb : b < w.heap.size) : O b = 0 ∧ P b = 0 :=
  ⟨Classical.byContradiction fun h2 => by have := h.dx.lo b h2; omega, Classical.byContradiction fun h2 => by have := h.dx.lp b h2; omega⟩
theorem DY.new (h : DY w W d r X O P D E vs) {b : Nat} (hb : W.heap.size ≤ b) : O b = 0 ∧ P b = 0 ∧ b ≠ X :=
  ⟨Classical.byContradiction fun h2 => by have := h.dx.olt b h2; omega, Classical.byContradiction fun h2 => by have := h.dx.plt b h2; omega, fun e => by have := h.bx.lt; omega⟩
/-- The page's, wherever its rows lie. -/
theorem ySize (h : DY w W d r X O P D E vs) (f : Int) : Calls Try.prog 31 #[.pointer (some ⟨r, 0, none⟩), .int .i64 f] W fun e w' => e = .returned (.tuple #[.int .i64 (sizeV E f), .int .i64 (fndE E.off f)]) ∧ w' = W := by
  obtain ⟨_, _, _, _, _, _, _, _, _, _, _, _, _, _, hp⟩ := h.dx.pk
  exact psize hp f
theorem yRead (h : DY w W d r X O P D E vs) {q : Nat} (hf : Few E q) (f at_ n : Int) (h1 : -9223372036854775808 ≤ n ∧ n ≤ 9223372036854775807) (h2 : -9223372036854775808 ≤ at_ ∧ at_ ≤ 9223372036854775807) :
    Calls Try.prog 33 #[.pointer (some ⟨r, 0, none⟩), .int .i64 f, .int .i64 at_, .int .i64 n] W fun e w' => ∃ v', e = .returned (.tuple #[v', .int .i64 (rdE E f at_ n)]) ∧ Ow w' W.heap.size v' (rdV E f at_ n) ∧ Below W.heap.size W w' := by
  obtain ⟨_, _, _, _, _, _, _, _, _, _, _, _, _, _, hp⟩ := h.dx.pk
  exact pread hp f at_ n (fun i hi => Nat.le_trans (hf.inv.len i hi) (by omega)) h1 h2
theorem yArm (h : DY w W d r X O P D E vs) (n : Int) : Calls Try.prog 41 #[.pointer (some ⟨r, 0, none⟩), .int .i64 n] W fun e w' => (∃ v, e = .returned v) ∧ DY w w' d r X O P D (offD E n) vs := by
  obtain ⟨_, _, _, _, _, _, _, _, _, _, _, _, _, _, hp⟩ := h.dx.pk
  exact (parm hp n).mono fun e w' ⟨h1, h2, h3⟩ => ⟨h1, h.page h2 h3⟩
theorem yFail (h : DY w W d r X O P D E vs) (n : Int) : Calls Try.prog 43 #[.pointer (some ⟨r, 0, none⟩), .int .i64 n] W fun e w' => (∃ v, e = .returned v) ∧ DY w w' d r X O P D (failD E n) vs := by
  obtain ⟨_, _, _, _, _, _, _, _, _, _, _, _, _, _, hp⟩ := h.dx.pk
  exact (pfail hp n).mono fun e w' ⟨h1, h2, h3⟩ => ⟨h1, h.page h2 h3⟩
theorem yCut (h : DY w W d r X O P D E vs) {q : Nat} (hf : Few E q) (hq : q ≤ 1000) (hb : E.tO ≤ 9223372036854775807 ∧ E.tF ≤ 9223372036854775807) (f n : Int) : Calls Try.prog 37 #[.pointer (some ⟨r, 0, none⟩), .int .i64 f, .int .i64 n] W fun e w' => e = .returned (.int .i64 (cutE E f n)) ∧ ∃ P', DY w w' d r X O P' D (cutD E f n) vs := by
  obtain ⟨f1, f2, f3, f4⟩ := hf.n40 hq
  obtain ⟨_, _, _, _, _, _, _, _, _, _, _, _, _, _, hp⟩ := h.dx.pk
  exact (pcut hp f n hb.1 hb.2 (fun i hi => Nat.le_trans (f1 i hi) (by omega)) (fun i hi => Nat.le_trans (f3 i hi) (by omega))).mono fun e w' ⟨h1, P', h2, h3⟩ => ⟨h1, P', h.page h2 h3⟩
theorem ySync (h : DY w W d r X O P D E vs) {q : Nat} (hf : Few E q) (hb : E.tO ≤ 9223372036854775807 ∧ E.tF ≤ 9223372036854775807) (f : Int) : Calls Try.prog 39 #[.pointer (some ⟨r, 0, none⟩), .int .i64 f] W fun e w' => e = .returned (.int .i64 (cntE E f)) ∧ ∃ P', DY w w' d r X O P' D (psyD E f) vs := by
  obtain ⟨_, _, _, _, _, _, _, _, _, _, _, _, _, _, hp⟩ := h.dx.pk
  exact (psync hp f hb.1 hb.2 (fun i hi => Nat.le_trans (hf.inv.len i hi) (by omega))).mono fun e w' ⟨h1, P', h2, h3⟩ => ⟨h1, P', h.page h2 h3⟩
theorem yWrite (h : DY w W d r X O P D E vs) {q : Nat} (hf : Few E q) (hq : q ≤ 1000) (hb : E.tO ≤ 9223372036854775807 ∧ E.tF ≤ 9223372036854775807) (f at_ : Int) (ad : Option Addr) (bs : List UInt8) (bc : Nat) (hbs : Rb W (.slice ad bs.length bc) bs) (hO : bs.length ≠ 0 → ∀ b n, ad = some ⟨b, n, none⟩ → P b = 0) :
    Calls Try.prog 51 #[.pointer (some ⟨r, 0, none⟩), .int .i64 f, .int .i64 at_, .slice ad bs.length bc] W fun e w' => e = .returned (.int .i64 (wrE E f at_ bs.length)) ∧ ∃ P', DY w w' d r X O P' D (wrD E f at_ bs) vs := by
  obtain ⟨f1, f2, f3, f4⟩ := hf.n40 hq
  have hl : bs.length ≤ 9223372036854775807 := by
    obtain ⟨_, _, e, _, h2, _⟩ := hbs
    exact h2
  exact (pwrite9 f at_ ad bs bc h.dx.pk hb.1 hb.2 f1 (fun i hi => Nat.le_trans (f3 i hi) (by omega)) hl hbs hO).mono fun e w' ⟨h1, P', h2, h3⟩ => ⟨h1, P', h.page h2 h3⟩
/-- The program's. -/
theorem xSize (h : DY w W d r X O P D E vs) (f : Int) : Calls Try.prog 30 #[.pointer (some ⟨d, 0, none⟩), .int .i64 f] W fun e w' => e = .returned (.tuple #[.int .i64 (sizeV D f), .int .i64 (fndE D.off f)]) ∧ w' = W := d1Size h.dx.d1 f
theorem xCut (h : DY w W d r X O P D E vs) {q : Nat} (hf : Few D q) (hq : q ≤ 1000) (f n : Int) : Calls Try.prog 36 #[.pointer (some ⟨d, 0, none⟩), .int .i64 f, .int .i64 n] W fun e w' => e = .returned (.int .i64 (cutE D f n)) ∧ ∃ O', DY w w' d r X O' P (cutD D f n) E vs :=
  (d1Cut h.dx.d1 hf hq f n).mono fun e w' ⟨h1, O', h2, h3⟩ => ⟨h1, O', h.prog h2.dk h3⟩
theorem xSync (h : DY w W d r X O P D E vs) {q : Nat} (hf : Few D q) (hq : q ≤ 1000) (f : Int) : Calls Try.prog 38 #[.pointer (some ⟨d, 0, none⟩), .int .i64 f] W fun e w' => e = .returned (.int .i64 (cntE D f)) ∧ ∃ O', DY w w' d r X O' P (psyD D f) E vs :=
  (d1Sync h.dx.d1 hf hq f).mono fun e w' ⟨h1, O', h2, h3⟩ => ⟨h1, O', h.prog h2.dk h3⟩
theorem xOff (h : DY w W d r X O P D E vs) (n : Int) (hn : n ≤ 9223372036854775807) : Calls Try.prog 40 #[.pointer (some ⟨d, 0, none⟩), .int .i64 n] W fun e w' => (∃ v, e = .returned v) ∧ DY w w' d r X O P (offD D n) E vs :=
  (d1Off h.dx.d1 n hn).mono fun e w' ⟨h1, h2, h3⟩ => ⟨h1, h.prog h2.dk h3⟩
theorem xFail (h : DY w W d r X O P D E vs) (n : Int) (hn : n ≤ 9223372036854775807) : Calls Try.prog 42 #[.pointer (some ⟨d, 0, none⟩), .int .i64 n] W fun e w' => (∃ v, e = .returned v) ∧ DY w w' d r X O P (failD D n) E vs :=
  (d1Fail h.dx.d1 n hn).mono fun e w' ⟨h1, h2, h3⟩ => ⟨h1, h.prog h2.dk h3⟩
/-- Bytes that are the call's own, aside of both disks. -/
theorem xWrite (h : DY w W d r X O P D E vs) {q : Nat} (hf : Few D q) (hq : q ≤ 1000) (f at_ : Int) {v : Value} {bs : List UInt8} (hv : Ow W 0 v bs) (hl : bs.length ≤ 9223372036854775807) (ho : ∀ b, v.ownBlock = some b → O b = 0 ∧ P b = 0 ∧ w.heap.size ≤ b ∧ b ≠ X) :
    Calls Try.prog 50 #[.pointer (some ⟨d, 0, none⟩), .int .i64 f, .int .i64 at_, v] W fun e w' => e = .returned (.int .i64 (wrE D f at_ bs.length)) ∧ ∃ O', DY w w' d r X O' P (wrD D f at_ bs) E vs ∧ Ow w' 0 v bs ∧ ∀ b, v.ownBlock = some b → O' b = 0 ∧ P b = 0 ∧ w.heap.size ≤ b ∧ b ≠ X := by
  obtain ⟨ad, cap, rfl, hle⟩ := hv.shape
  refine (d1Write h.dx.d1 hf hq f at_ ad bs cap (hv.rb hl) (fun b n e => ?_)).mono fun e w' ⟨h1, O', h2, h3⟩ => ⟨h1, O', h.prog h2.dk h3, hv.same fun b e => h3.keep b (hv.lt b e) (ho b e).1, fun b e => ⟨h3.old b (hv.lt b e) (ho b e).1, (ho b e).2⟩⟩
  subst e
  rcases hv.2 with ⟨e2, _⟩ | ⟨g, c, cur, e2, _⟩
  · simp at e2
  · simp at e2
    obtain ⟨⟨rfl, rfl⟩, rfl⟩ := e2
    exact (ho b rfl).1
end
end Go.Proofs.Ytljhhdpeakencaa
end
section
set_option linter.unusedSimpArgs false
set_option linter.unusedVariables false
namespace Go.Proofs.Ytljhhdpeakencaa
open Go.RowKit

/-! A crash of both, and new disks of what was kept. -/
def RWx (W : World) (T : Nat → Nat) (rb : Nat) (rows : Nat → List UInt8) : Prop := ∃ pb rv pv, RW W T rb pb rv pv rows
theorem RWx.keep {W W' : World} {T : Nat → Nat} {rb : Nat} {rows : Nat → List UInt8} (h : RWx W T rb rows) (hk : ∀ b, T b ≠ 0 → W'.heap[b]? = W.heap[b]?) : RWx W' T rb rows := by
  obtain ⟨pb, rv, pv, h⟩ := h
  exact ⟨pb, rv, pv, h.frame hk⟩
theorem RWx.lt {W : World} {T : Nat → Nat} {rb : Nat} {rows : Nat → List UInt8} (h : RWx W T rb rows) : ∀ b, T b ≠ 0 → b < W.heap.size := by
  obtain ⟨pb, rv, pv, h⟩ := h
  exact h.lt
theorem RWx.below {W W' : World} {T : Nat → Nat} {rb : Nat} {rows : Nat → List UInt8} (h : RWx W T rb rows) (hb : Below W.heap.size W W') : RWx W' T rb rows := h.keep fun b hb' => hb.block b (h.lt b hb')
abbrev r9 (rows : Nat → List UInt8) : List (List UInt8) := (List.range 8).map rows
structure DZ (w W : World) (d r X : Nat) (O P : Nat → Nat) (D E : Ds) (vs : Array Value) (T : Nat → Nat) (rb : Nat) (rows : Nat → List UInt8) : Prop where
  dy : DY w W d r X O P D E vs
  rx : RWx W T rb rows
  tt : ∀ b, T b ≠ 0 → O b = 0 ∧ P b = 0 ∧ w.heap.size ≤ b
  sm : ∀ i, i < 8 → (rows i).length ≤ 131072
structure DU (w W : World) (d r X : Nat) (O P : Nat → Nat) (D E : Ds) (vs : Array Value) (T : Nat → Nat) (rb : Nat) (rows : Nat → List UInt8) (B : Nat) (u : Value) : Prop where
  dz : DZ w W d r X O P D E vs T rb rows
  lu : Lc W B u (r9 rows)
  lb : w.heap.size ≤ B ∧ ∀ b, B ≤ b → O b = 0 ∧ P b = 0 ∧ T b = 0
section
variable {w W W' : World} {d r X : Nat} {O P : Nat → Nat} {D E D' E' : Ds} {vs : Array Value} {T : Nat → Nat} {rb B : Nat} {rows : Nat → List UInt8} {u : Value}
theorem DZ.below (h : DZ w W d r X O P D E vs T rb rows) (hb : Below W.heap.size W W') : DZ w W' d r X O P D E vs T rb rows := ⟨h.dy.below hb, h.rx.below hb, h.tt, h.sm⟩
theorem DU.below (h : DU w W d r X O P D E vs T rb rows B u) (hb : Below W.heap.size W W') : DU w W' d r X O P D E vs T rb rows B u := ⟨h.dz.below hb, h.lu.below hb, h.lb⟩
theorem r9_sml (h : ∀ i, i < 8 → (rows i).length ≤ 131072) : Sml (r9 rows) := fun l hl => by
  obtain ⟨i, hi, rfl⟩ := List.mem_map.1 hl
  exact h i (by simpa using hi)
theorem DZ.rl (h : DZ w W d r X O P D E vs T rb rows) : Rl W (.slice (some ⟨rb, 0, none⟩) 8 8) (r9 rows) := by
  obtain ⟨pb, rv, pv, h1⟩ := h.rx
  exact h1.rl fun i hi => Nat.le_trans (h.sm i hi) (by omega)
theorem DU.rlu (h : DU w W d r X O P D E vs T rb rows B u) : Rl W u (r9 rows) := h.lu.rl (by simp) (fun l hl => Nat.le_trans (r9_sml h.dz.sm l hl) (by omega))
/-- The program's first crash. -/
theorem zCrash (h : DY w W d r X O P D E vs) {q : Nat} (hf : Few D q) (hq : q ≤ 1000) (pv : Value) (ps : List Int) (hp : Rp W pv ps) (hpO : ps.length ≠ 0 → ∀ b n c, pv = .slice (some ⟨b, n, none⟩) ps.length c → O b = 0) :
    Calls Try.prog 44 #[.pointer (some ⟨d, 0, none⟩), pv] W fun e w' => ∃ T rb, e = .returned (.slice (some ⟨rb, 0, none⟩) 8 8) ∧ DZ w w' d r X O P { D with off := true } E vs T rb (crash D ps) := by
  refine (d1Crash h.dx.d1 hf hq pv ps hp hpO).mono ?_
  rintro e w' ⟨T, rb, rfl, ⟨h1, h2⟩, h3, h4⟩
  refine ⟨T, rb, rfl, h.prog h3.dk h4, h1, fun b hb => ?_, fun i hi => hf.crash ps i hi⟩
  have hn := h.new (h2 b hb)
  exact ⟨hn.1, hn.2.1, by have := h2 b hb; have := h.dx.bel.size; omega⟩
/-- The page's. -/
theorem zPage (h : DZ w W d r X O P D E vs T rb rows) {q : Nat} (hf : Few E q) (hq : q ≤ 1000) (pv : Value) (ps : List Int) (hp : Rp W pv ps) (hr : rows = crash E ps) :
    Calls Try.prog 46 #[.pointer (some ⟨r, 0, none⟩), pv] W fun e w' => ∃ u, e = .returned u ∧ DU w w' d r X O P D { E with off := true } vs T rb rows W.heap.size u := by
  refine (pcrash h.dy.dx.pk pv ps hp hf hq).mono ?_
  rintro e w' ⟨u, rfl, h1, h2, h3⟩
  refine ⟨u, rfl, ⟨h.dy.page h2 h3, h.rx.keep fun b hb => h3.keep b (h.rx.lt b hb) (h.tt b hb).2.1, h.tt, h.sm⟩, by rw [hr]; exact h1, h.dy.dx.bel.size, fun b hb => ?_⟩
  have hn := h.dy.new hb
  exact ⟨hn.1, hn.2.1, Classical.byContradiction fun h9 => by have := h.rx.lt b h9; omega⟩
/-- The program's second crash. -/
theorem zAgain (h : DU w W d r X O P D E vs T rb rows B u) {q : Nat} (hf : Few D q) (hq : q ≤ 1000) (pv : Value) (ps : List Int) (hp : Rp W pv ps) (hpO : ps.length ≠ 0 → ∀ b n c, pv = .slice (some ⟨b, n, none⟩) ps.length c → O b = 0) (hr : rows = crash D ps) :
    Calls Try.prog 44 #[.pointer (some ⟨d, 0, none⟩), pv] W fun e w' => ∃ rb2, e = .returned (.slice (some ⟨rb2, 0, none⟩) 8 8) ∧ Rl w' (.slice (some ⟨rb2, 0, none⟩) 8 8) (r9 rows) ∧ DU w w' d r X O P { D with off := true } E vs T rb rows B u := by
  refine (d1Crash h.dz.dy.dx.d1 hf hq pv ps hp hpO).mono ?_
  rintro e w' ⟨T2, rb2, rfl, ⟨⟨pb, rv, pv2, h1⟩, h2⟩, h3, h4⟩
  refine ⟨rb2, rfl, by rw [hr]; exact h1.rl fun i hi => Nat.le_trans (hf.crash ps i hi) (by omega), ⟨h.dz.dy.prog h3.dk h4, h.dz.rx.keep fun b hb => h4.keep b (h.dz.rx.lt b hb) (h.dz.tt b hb).1, h.dz.tt, h.dz.sm⟩, h.lu.same (fun b e => ?_) (fun b b1 b2 _ => ?_), h.lb⟩
  · exact h4.keep b (h.lu.row b e).2.1 (h.lb.2 b (h.lu.row b e).1).1
  · exact h4.keep b b2 (h.lb.2 b b1).1
/-- Behind them: a new disk, beside what was kept. -/
structure DN (w W : World) (d : Nat) (O : Nat → Nat) (D : Ds) (T : Nat → Nat) (rb : Nat) (rows : Nat → List UInt8) (B : Nat) (u : Value) : Prop where
  d1 : D1 w W d O D
  rx : RWx W T rb rows
  tt : ∀ b, T b ≠ 0 → O b = 0 ∧ w.heap.size ≤ b
  lu : Lc W B u (r9 rows)
  lb : w.heap.size ≤ B ∧ ∀ b, B ≤ b → T b = 0
  sm : ∀ i, i < 8 → (rows i).length ≤ 131072
theorem DN.below {d : Nat} (h : DN w W d O D T rb rows B u) (hb : Below W.heap.size W W') : DN w W' d O D T rb rows B u := ⟨h.d1.below hb, h.rx.below hb, h.tt, h.lu.below hb, h.lb, h.sm⟩
theorem zNew (h : DU w W d r X O P D E vs T rb rows B u) : Calls Try.prog 23 #[.slice (some ⟨rb, 0, none⟩) 8 8] W fun e w' => ∃ d2 O2, e = .returned (.tuple #[.pointer (some ⟨d2, 0, none⟩), .int .i64 0]) ∧ DN w w' d2 O2 (dsN (r9 rows) 8) T rb rows B u := by
  refine (d1New W _ (r9 rows) h.dz.rl (.inr (by simp)) (r9_sml h.dz.sm)).mono ?_
  rintro e w' ⟨rfl, hb, O2, h2⟩
  have hz := h.dz.dy.dx.bel.size
  refine ⟨_, O2, rfl, ⟨h2.dk, fun b hb' => Nat.le_trans hz (h2.lo b hb'), h.dz.dy.dx.bel.trans (hb.mono hz)⟩, h.dz.rx.below hb, fun b hb' => ⟨h2.old (h.dz.rx.lt b hb'), (h.dz.tt b hb').2.2⟩, h.lu.below hb, ⟨h.lb.1, fun b hb' => (h.lb.2 b hb').2.2⟩, h.dz.sm⟩
theorem zSpoil {d : Nat} (h : DN w W d O D T rb rows B u) : Calls Try.prog 48 #[.slice (some ⟨rb, 0, none⟩) 8 8] W fun e w' => (∃ v, e = .returned v) ∧ D1 w w' d O D ∧ Lc w' B u (r9 rows) := by
  obtain ⟨pb, rv, pv, h1⟩ := h.rx
  refine (cells9 W h1 fun i hi => Nat.le_trans (h.sm i hi) (by omega)).mono ?_
  rintro e w' ⟨he, T', hf⟩
  have ht : ∀ b, O b ≠ 0 → T b = 0 := fun b hb => Classical.byContradiction fun h9 => hb (h.tt b h9).1
  obtain ⟨q1, q2⟩ := fp_low h.d1.bel (fun b hb => (h.tt b hb).2) hf
  refine ⟨he, h.d1.keep (fun b hb => hf.keep b (h.d1.olt b hb) (ht b hb)) hf.size q1, h.lu.same (fun b e => ?_) (fun b b1 b2 _ => ?_)⟩
  · exact hf.keep b (h.lu.row b e).2.1 (h.lb.2 b (h.lu.row b e).1)
  · exact hf.keep b b2 (h.lb.2 b b1)
theorem zPnew {d : Nat} (h : D1 w W d O D) (hu : Lc W B u (r9 rows)) (hs : ∀ i, i < 8 → (rows i).length ≤ 131072) : Calls Try.prog 28 #[u] W fun e w' => ∃ r2 P2, e = .returned (.pointer (some ⟨r2, 0, none⟩)) ∧ DX w w' d r2 O P2 D (dsN (r9 rows) 8) := by
  refine (pnew W u (r9 rows) (hu.rl (by simp) (fun l hl => Nat.le_trans (r9_sml hs l hl) (by omega))) (.inr (by simp)) (r9_sml hs)).mono ?_
  rintro e w' ⟨rfl, hb, P2, h1, h2⟩
  have h3 := h.below hb
  exact ⟨_, P2, rfl, h3.dk, h1, fun b hb' => Classical.byContradiction fun h9 => by have := h.olt b hb'; have := h2 b h9; omega, h.lo, fun b hb' => Nat.le_trans h.bel.size (h2 b hb'), h3.bel⟩
end
end Go.Proofs.Ytljhhdpeakencaa
end
section
set_option linter.unusedSimpArgs false
set_option linter.unusedVariables false
namespace Go.Proofs.Ytljhhdpeakencaa
open Go.RowKit

/-! The last crash of both. -/
structure DR (w W : World) (d r : Nat) (O P : Nat → Nat) (D E : Ds) (T : Nat → Nat) (rb : Nat) (rows : Nat → List UInt8) : Prop where
  dx : DX w W d r O P D E
  rx : RWx W T rb rows
  tt : ∀ b, T b ≠ 0 → P b = 0
  sm : ∀ i, i < 8 → (rows i).length ≤ 131072
section
variable {w W W' : World} {d r : Nat} {O P : Nat → Nat} {D E : Ds} {T : Nat → Nat} {rb : Nat} {rows : Nat → List UInt8}
theorem eCrash (h : DX w W d r O P D E) {q : Nat} (hf : Few D q) (hq : q ≤ 1000) (pv : Value) (ps : List Int) (hp : Rp W pv ps) (hpO : ps.length ≠ 0 → ∀ b n c, pv = .slice (some ⟨b, n, none⟩) ps.length c → O b = 0) :
    Calls Try.prog 44 #[.pointer (some ⟨d, 0, none⟩), pv] W fun e w' => ∃ T rb, e = .returned (.slice (some ⟨rb, 0, none⟩) 8 8) ∧ DR w w' d r O P { D with off := true } E T rb (crash D ps) := by
  refine (d1Crash h.d1 hf hq pv ps hp hpO).mono ?_
  rintro e w' ⟨T, rb, rfl, ⟨h1, h2⟩, h3, h4⟩
  exact ⟨T, rb, rfl, h.prog h3.dk h4, h1, fun b hb => Classical.byContradiction fun h9 => by have := h.plt b h9; have := h2 b hb; omega, fun i hi => hf.crash ps i hi⟩
theorem ePage (h : DR w W d r O P D E T rb rows) {q : Nat} (hf : Few E q) (hq : q ≤ 1000) (pv : Value) (ps : List Int) (hp : Rp W pv ps) (hr : rows = crash E ps) :
    Calls Try.prog 46 #[.pointer (some ⟨r, 0, none⟩), pv] W fun e w' => ∃ u, e = .returned u ∧ Rl w' (.slice (some ⟨rb, 0, none⟩) 8 8) (r9 rows) ∧ Rl w' u (r9 rows) ∧ (∃ a n c, u = .slice a n c) ∧ Below w.heap.size w w' := by
  refine (pcrash h.dx.pk pv ps hp hf hq).mono ?_
  rintro e w' ⟨u, rfl, h1, h2, h3⟩
  have hsm := r9_sml h.sm
  refine ⟨u, rfl, ?_, ?_, ?_, (h.dx.page h2 h3).bel⟩
  · obtain ⟨pb, rv, pv2, h5⟩ := h.rx.keep (W' := w') fun b hb => h3.keep b (h.rx.lt b hb) (h.tt b hb)
    exact h5.rl fun i hi => Nat.le_trans (h.sm i hi) (by omega)
  · rw [hr] at hsm ⊢
    exact h1.rl (by simp) (fun l hl => Nat.le_trans (hsm l hl) (by omega))
  · obtain ⟨_, _, h6, _⟩ := h1
    exact ownsRow_sl h6
end
end Go.Proofs.Ytljhhdpeakencaa
end

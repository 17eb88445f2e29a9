import Derived.Test.YtjbhegakgdcldaaShZ2
set_option linter.unusedSimpArgs false
set_option linter.unusedVariables false
set_option maxRecDepth 100000
namespace Go.Proofs.Ytjbhegakgdcldaa
open Go.RowKit Go.Shelf

/-! What a shelf is while a call of its disk fails: the plain side, evaluated. -/
def tx4 (i : Nat) : ByteArray := ⟨#[UInt8.ofNat (97 + i)]⟩
structure F4 where
  D : Ds
  ps : List Pl
  fl : Bool
  l : List ByteArray
def armed (n i : Nat) (D : Ds) : Ds := if i = 1 then failD D n else D
def step4 (n i : Nat) (s : F4) : F4 :=
  let r := putR 1 128 (tx4 i) (armed n i s.D) s.ps s.fl
  ⟨r.D, r.ps, r.fl, if r.e = 0 then s.l ++ [tx4 i] else s.l⟩
def f4 (n : Nat) : Nat → F4
  | 0 => ⟨psyD (dsN [] 8) (1 : Nat), [], false, []⟩
  | i + 1 => step4 n i (f4 n i)
def chk4 (n i : Nat) : Bool :=
  let s := f4 n i
  let r := putR 1 128 (tx4 i) (armed n i s.D) s.ps s.fl
  decide (r.e = 0) || (decide (r.e = 14) && r.fl && decide (txs (ents 0 r.ps) = s.l))
def end4 (n : Nat) : Bool :=
  let s := f4 n 4
  let o := opnR 1 128 (dsN ((List.range 8).map (crash s.D [])) 8)
  decide (s.fl = !(decide (s.l.length = 4))) && decide (o.e = 0) && bagP 1 s.l (txs (ents 0 o.ps))
def lens4 (n i : Nat) : Bool := decide ((f4 n i).ps.length ≤ 4) && decide ((f4 n i).l.length ≤ 4)
def ps5 (n : Nat) : List Pl := (opnR 1 128 (dsN ((List.range 8).map (crash (f4 n 4).D [])) 8)).ps
theorem chk4_all : ((List.range 12).all fun n => (List.range 4).all fun i => chk4 (n + 1) i) = true := by decide +kernel
theorem end4_all : ((List.range 12).all fun n => end4 (n + 1)) = true := by decide +kernel
theorem lens4_all : ((List.range 12).all fun n => (List.range 5).all fun i => lens4 (n + 1) i) = true := by decide +kernel
theorem ps5_all : ((List.range 12).all fun n => decide ((ps5 (n + 1)).length ≤ 8) && (txs (ents 0 (ps5 (n + 1)))).all fun x => decide (x.size ≤ 100)) = true := by decide +kernel
theorem all_at {p : Nat → Bool} {m : Nat} (h : (List.range m).all p = true) {k : Nat} (hk : k < m) : p k = true := List.all_eq_true.1 h k (by simpa using hk)
theorem chk4_at {n i : Nat} (hn : 1 ≤ n ∧ n ≤ 12) (hi : i < 4) : chk4 n i = true := by
  have h := all_at (all_at chk4_all (k := n - 1) (by omega)) hi
  rwa [show n - 1 + 1 = n by omega] at h
theorem chk4_case {n i : Nat} (h : chk4 n i = true) : ((putR 1 128 (tx4 i) (armed n i (f4 n i).D) (f4 n i).ps (f4 n i).fl).e = 0 ∧ (f4 n (i + 1)).l = (f4 n i).l ++ [tx4 i]) ∨ ((putR 1 128 (tx4 i) (armed n i (f4 n i).D) (f4 n i).ps (f4 n i).fl).e = 14 ∧ (f4 n (i + 1)).fl = true ∧ txs (ents 0 (f4 n (i + 1)).ps) = (f4 n i).l ∧ (f4 n (i + 1)).l = (f4 n i).l) := by
  have h2 : (decide ((putR 1 128 (tx4 i) (armed n i (f4 n i).D) (f4 n i).ps (f4 n i).fl).e = 0) || (decide ((putR 1 128 (tx4 i) (armed n i (f4 n i).D) (f4 n i).ps (f4 n i).fl).e = 14) && (f4 n (i + 1)).fl && decide (txs (ents 0 (f4 n (i + 1)).ps) = (f4 n i).l))) = true := h
  have hl : (f4 n (i + 1)).l = if (putR 1 128 (tx4 i) (armed n i (f4 n i).D) (f4 n i).ps (f4 n i).fl).e = 0 then (f4 n i).l ++ [tx4 i] else (f4 n i).l := rfl
  rw [Bool.or_eq_true] at h2
  rcases h2 with h3 | h3
  · have h4 := of_decide_eq_true h3
    exact .inl ⟨h4, by rw [hl, if_pos h4]⟩
  · rw [Bool.and_eq_true, Bool.and_eq_true] at h3
    obtain ⟨⟨h7, h8⟩, h6⟩ := h3
    have h4 := of_decide_eq_true h7
    exact .inr ⟨h4, h8, of_decide_eq_true h6, by rw [hl, if_neg (by rw [h4]; decide)]⟩
theorem end4_at {n : Nat} (hn : 1 ≤ n ∧ n ≤ 12) : end4 n = true := by
  have h := all_at end4_all (k := n - 1) (by omega)
  rwa [show n - 1 + 1 = n by omega] at h
theorem lens4_at {n i : Nat} (hn : 1 ≤ n ∧ n ≤ 12) (hi : i ≤ 4) : (f4 n i).ps.length ≤ 4 ∧ (f4 n i).l.length ≤ 4 := by
  have h := all_at (all_at lens4_all (k := n - 1) (by omega)) (k := i) (by omega)
  rw [show n - 1 + 1 = n by omega] at h
  simpa [lens4] using h
theorem ps5_at {n : Nat} (hn : 1 ≤ n ∧ n ≤ 12) : (ps5 n).length ≤ 8 ∧ ∀ x ∈ txs (ents 0 (ps5 n)), x.size ≤ 100 := by
  have h := all_at ps5_all (k := n - 1) (by omega)
  rw [show n - 1 + 1 = n by omega, Bool.and_eq_true] at h
  exact ⟨of_decide_eq_true h.1, fun x hx => of_decide_eq_true (List.all_eq_true.1 h.2 x hx)⟩
theorem end4_case {n : Nat} (h : end4 n = true) : (f4 n 4).fl = !(decide ((f4 n 4).l.length = 4)) ∧ (opnR 1 128 (dsN ((List.range 8).map (crash (f4 n 4).D [])) 8)).e = 0 ∧ bagP 1 (f4 n 4).l (txs (ents 0 (ps5 n))) = true := by
  have h2 : (decide ((f4 n 4).fl = !(decide ((f4 n 4).l.length = 4))) && decide ((opnR 1 128 (dsN ((List.range 8).map (crash (f4 n 4).D [])) 8)).e = 0) && bagP 1 (f4 n 4).l (txs (ents 0 (ps5 n)))) = true := h
  rw [Bool.and_eq_true, Bool.and_eq_true] at h2
  exact ⟨of_decide_eq_true h2.1.1, of_decide_eq_true h2.1.2, h2.2⟩
theorem putR_few {D : Ds} {q f n : Nat} {t : ByteArray} {ps : List Pl} {fl : Bool} (h : Few D q) : Few (putR f n t D ps fl).D (q + 1) := by
  unfold putR
  split
  · exact h.le (by omega)
  · split
    · exact h.le (by omega)
    · split
      · exact h.le (by omega)
      · have h2 := (lyR_fe (f := f) (n := n) (at_ := low ps) (p := ⟨1, t⟩) (ps := ps) h).2
        show Few (if (lyR f n (low ps) ⟨1, t⟩ D ps).e ≠ 0 then _ else _ : Rf).D (q + 1)
        split
        · exact h2
        · exact h2
theorem armed_few {D : Ds} {q n i : Nat} (h : Few D q) : Few (armed n i D) q := by
  unfold armed
  split
  · exact h.failD _
  · exact h
theorem f4_few (n : Nat) : ∀ i, Few (f4 n i).D i
  | 0 => Few.psyD (Few.new sml_nil 8 0) ((1 : Nat) : Int)
  | i + 1 => putR_few (armed_few (f4_few n i))
theorem f4_sizes (n : Nat) : ∀ i, ∀ x ∈ (f4 n i).l, x.size ≤ 100
  | 0, x, h => by cases h
  | i + 1, x, h => by
    have h2 : x ∈ (if (putR 1 128 (tx4 i) (armed n i (f4 n i).D) (f4 n i).ps (f4 n i).fl).e = 0 then (f4 n i).l ++ [tx4 i] else (f4 n i).l) := h
    split at h2
    · rcases List.mem_append.1 h2 with h3 | h3
      · exact f4_sizes n i x h3
      · rw [List.mem_singleton.1 h3]; show (1 : Nat) ≤ 100; omega
    · exact f4_sizes n i x h2
/-- A shelf, and beside it a row of what was put. -/
def TF (w1 wr : World) (d b : Nat) (D : Ds) (ps : List Pl) (fl : Bool) (lv : Value) (l : List ByteArray) : Prop :=
  ∃ O P, SH w1 wr d O P (shv d 1 128) b 90 D ps fl ∧ Or 9 cS wr w1.heap.size lv l ∧ (∀ g, lv.ownBlock = some g → O g = 0 ∧ P g = 0)
theorem bx4 (d : Nat) : Box (shv d 1 128) 0 d 1 128 90 := shv_box d 1 128 (by omega) (by omega)
section
variable {w1 wr w' w3 : World} {d b : Nat} {D : Ds} {ps : List Pl} {fl : Bool} {l : List ByteArray} {lv v3 : Value}
theorem TF.below (h : TF w1 wr d b D ps fl lv l) (hb : Below wr.heap.size wr w') : TF w1 w' d b D ps fl lv l := by
  obtain ⟨O, P, h1, h2, h3⟩ := h
  exact ⟨O, P, h1.below hb, h2.below' hb, h3⟩
theorem TF.bel (h : TF w1 wr d b D ps fl lv l) : Below w1.heap.size w1 wr := by obtain ⟨O, P, h1, _⟩ := h; exact h1.d1.bel
theorem TF.put (h : TF w1 wr d b D ps fl lv l) {q : Nat} (hf : Few D q) (hq : q ≤ 10) (hl : ps.length ≤ 4) (tx : ByteArray) :
    Calls Try.prog 29 #[.pointer (some ⟨b, 0, none⟩), .string tx] wr fun e w' => e = .returned (.tuple #[.int .i64 (putR 1 128 tx D ps fl).v, .int .i64 (putR 1 128 tx D ps fl).e]) ∧ TF w1 w' d b (putR 1 128 tx D ps fl).D (putR 1 128 tx D ps fl).ps (putR 1 128 tx D ps fl).fl lv l := by
  obtain ⟨O, P, h1, h2, h3⟩ := h
  refine (put10 (bx4 d) h1 hf (by omega) (by omega) tx).mono ?_
  rintro e w' ⟨rfl, O', P', h4, f4⟩
  have hz : ∀ g, lv.ownBlock = some g → O' g + P' g = 0 := fun g hg => f4.old g (h2.ge hg).2 (by have := h3 g hg; show O g + P g = 0; omega)
  exact ⟨rfl, O', P', h4, ownsRow_same h2 fun k hk => f4.keep k (h2.ge hk).2 (by have := h3 k hk; show O k + P k = 0; omega), fun g hg => by have := hz g hg; omega⟩
theorem TF.fail (h : TF w1 wr d b D ps fl lv l) (n : Nat) (hn : n ≤ 12) :
    Calls Try.prog 40 #[.pointer (some ⟨d, 0, none⟩), .int .i64 (n : Int)] wr fun e w' => (∃ v, e = .returned v) ∧ TF w1 w' d b (failD D n) ps fl lv l := by
  obtain ⟨O, P, h1, h2, h3⟩ := h
  refine (d1Fail h1.d1 n (by omega)).mono ?_
  rintro e w' ⟨he, hd, hf⟩
  obtain ⟨h4, f4⟩ := h1.disk hd hf
  exact ⟨he, O, P, h4, ownsRow_same h2 fun k hk => f4.keep k (h2.ge hk).2 (by have := h3 k hk; show O k + P k = 0; omega), h3⟩
theorem TF.del (h : TF w1 wr d b D ps true lv l) {q : Nat} (hf : Few D q) (hq : q ≤ 10) (hl : ps.length ≤ 4) :
    Calls Try.prog 25 #[.pointer (some ⟨b, 0, none⟩), .int .i64 0] wr fun e w' => e = .returned (.int .i64 14) ∧ TF w1 w' d b D ps true lv l := by
  obtain ⟨O, P, h1, h2, h3⟩ := h
  refine (del10 (bx4 d) h1 hf (by omega) (by omega) 0).mono ?_
  rintro e w' ⟨rfl, O', P', h4, f4⟩
  have e1 : delR 1 128 0 D ps true = ⟨14, 0, D, ps, true⟩ := by unfold delR; rw [if_pos rfl]
  rw [e1] at h4 ⊢
  have hz : ∀ g, lv.ownBlock = some g → O' g + P' g = 0 := fun g hg => f4.old g (h2.ge hg).2 (by have := h3 g hg; show O g + P g = 0; omega)
  exact ⟨rfl, O', P', h4, ownsRow_same h2 fun k hk => f4.keep k (h2.ge hk).2 (by have := h3 k hk; show O k + P k = 0; omega), fun g hg => by have := hz g hg; omega⟩
theorem TF.failed (h : TF w1 wr d b D ps fl lv l) : Calls Try.prog 32 #[.pointer (some ⟨b, 0, none⟩)] wr fun e w' => e = .returned (.bool fl) ∧ w' = wr := by
  obtain ⟨O, P, h1, _⟩ := h
  obtain ⟨pv, hs⟩ := h1.sb
  exact failed10 (bx4 d) hs
theorem TF.texts (h : TF w1 wr d b D ps fl lv l) (hl : ps.length ≤ 128) : Calls Try.prog 38 #[.pointer (some ⟨b, 0, none⟩)] wr fun e w' => ∃ v, e = .returned v ∧ Or 9 cS w' wr.heap.size v (txs (ents 0 ps)) ∧ TF w1 w' d b D ps fl lv l := by
  have h9 := h
  obtain ⟨O, P, h1, _⟩ := h
  obtain ⟨pv, hs⟩ := h1.sb
  refine (texts10 (bx4 d) hs hl).mono ?_
  rintro e w' ⟨v, rfl, hr, hb⟩
  exact ⟨v, rfl, hr, h9.below hb⟩
theorem TF.eq (h : TF w1 wr d b D ps fl lv l) {v : Value} {base : Nat} (hr : Or 9 cS wr base v l) (hs : ∀ x ∈ l, x.size ≤ 100) : Calls Try.prog 41 #[v, lv] wr fun e w' => e = .returned (.bool true) ∧ TF w1 w' d b D ps fl lv l := by
  have h9 := h
  obtain ⟨O, P, h1, h2, _⟩ := h
  have hm : ∀ x ∈ l, x.size ≤ maxLen := fun x hx => by have := hs x hx; unfold maxLen; omega
  refine (eqStr10 v lv l l wr (hr.ss hm) (h2.ss hm)).mono ?_
  rintro e w' ⟨rfl, hb⟩
  exact ⟨by rw [decide_eq_true rfl], h9.below hb⟩
theorem TF.app {o : Obj} {s : ByteArray} (h : TF w1 wr d b D ps fl lv l) (hown : w3.ownsRow w1.heap.size 9 1 v3 (l.length + 1) (l.map cS ++ [cS s])) (hgr : (wr.alloc o).grownBy w3 lv.ownBlock) (hsn : Sn (wr.alloc o) lv v3) : TF w1 w3 d b D ps fl v3 (l ++ [s]) := by
  obtain ⟨O, P, h1, h2, h3⟩ := h
  have hz : (wr.alloc o).heap.size = wr.heap.size + 1 := by simp
  have hs := hgr.size
  have hw := h1.d1.bel.size
  have hkk : ∀ k, k < wr.heap.size → lv.ownBlock ≠ some k → w3.heap[k]? = wr.heap[k]? := fun k hk hne => (hgr.block k (by omega) (fun e => hne e.symm)).trans (Below.heap_alloc wr o k hk)
  have hd : D1 w1 w3 d O D := h1.d1.keep (fun k h0 => hkk k (h1.d1.olt k h0) (fun e => h0 (h3 k e).1)) (by omega) ((h1.d1.bel.alloc hw o).grown hgr (by omega) (fun k e => (h2.ge e).1))
  obtain ⟨pv, hsb⟩ := h1.sb
  refine ⟨O, P, ⟨hd, ⟨pv, hsb.same fun k h0 => hkk k (hsb.lt k h0) (fun e => h0 (h3 k e).2)⟩, h1.lo, h1.ap⟩, ?_, fun g hg => ?_⟩
  · show World.ownsRow _ _ _ _ _ _ _
    rw [List.map_append, List.length_append]
    exact hown
  · rcases hsn with e | e
    · exact h3 g (by rw [← e]; exact hg)
    · have := e g hg
      exact ⟨h1.d1.new (by omega), h1.pnew (by omega)⟩
/-- Behind the crash: a new disk, and the row. -/
def TG (w1 wr : World) (d : Nat) (D : Ds) (lv : Value) (l : List ByteArray) : Prop := ∃ O, D1 w1 wr d O D ∧ Or 9 cS wr w1.heap.size lv l ∧ ∀ g, lv.ownBlock = some g → O g = 0
theorem TF.again (h : TF w1 wr d b D ps fl lv l) {q : Nat} (hf : Few D q) (hq : q ≤ 10) :
    Calls Try.prog 27 #[.pointer (some ⟨d, 0, none⟩), .slice none 0 0] wr fun e w' => ∃ d', e = .returned (.pointer (some ⟨d', 0, none⟩)) ∧ TG w1 w' d' (dsN ((List.range 8).map (crash D [])) 8) lv l := by
  obtain ⟨O, P, h1, h2, h3⟩ := h
  refine (again10 h1.d1 hf (by omega) (.slice none 0 0) [] (Rp.nil9 _) (fun h => absurd rfl h)).mono ?_
  rintro e w' ⟨d', O', rfl, hd, hfp, _, hO⟩
  exact ⟨d', rfl, O', hd, ownsRow_same h2 fun k hk => hfp.keep k (h2.ge hk).2 (h3 k hk).1, fun g hg => hO g (h2.ge hg).2⟩
theorem TG.open (h : TG w1 wr d D lv l) (hf : Few D 0) (he : (opnR 1 128 D).e = 0) :
    Calls Try.prog 22 #[.pointer (some ⟨d, 0, none⟩), .int .i64 1, .int .i64 128] wr fun e w' => e = .returned (.tuple #[.pointer (some ⟨wr.heap.size, 0, none⟩), .int .i64 0]) ∧ TF w1 w' d wr.heap.size (opnR 1 128 D).D (opnR 1 128 D).ps false lv l := by
  obtain ⟨O, h1, h2, h3⟩ := h
  refine (open10 h1 hf (by omega) 1 128 (by omega) (by omega)).mono ?_
  rintro e w' (⟨h4, _⟩ | ⟨_, rfl, O', P', h4, f4⟩)
  · exact absurd he h4
  · have hz : ∀ g, lv.ownBlock = some g → O' g + P' g = 0 := fun g hg => f4.old g (h2.ge hg).2 (h3 g hg)
    exact ⟨rfl, O', P', h4, ownsRow_same h2 fun k hk => f4.keep k (h2.ge hk).2 (h3 k hk), fun g hg => by have := hz g hg; omega⟩
theorem TF.bag (h : TF w1 wr d b D ps fl lv l) {v : Value} {base : Nat} {m : List ByteArray} (hr : Or 9 cS wr base v m) (hs : ∀ x ∈ l, x.size ≤ 100) (hm : ∀ x ∈ m, x.size ≤ 100) (hml : m.length ≤ 1000) : Calls Try.prog 37 #[lv, v, .int .i64 1] wr fun e w' => e = .returned (.bool (bagP 1 l m)) ∧ TF w1 w' d b D ps fl lv l := by
  have h9 := h
  obtain ⟨O, P, h1, h2, _⟩ := h
  refine (bag10 lv v l m 1 wr (h2.ss fun x hx => by have := hs x hx; unfold maxLen; omega) (hr.sc fun x hx => by have := hm x hx; unfold maxLen; omega) (by omega)).mono ?_
  rintro e w' ⟨rfl, hb⟩
  exact ⟨rfl, h9.below hb⟩
end
end Go.Proofs.Ytjbhegakgdcldaa

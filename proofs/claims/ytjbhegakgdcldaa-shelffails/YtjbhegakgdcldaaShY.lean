import Derived.Test.YtjbhegakgdcldaaShX
set_option linter.unusedSimpArgs false
set_option linter.unusedVariables false
set_option maxRecDepth 100000
namespace Go.Proofs.Ytjbhegakgdcldaa
open Go.RowKit Go.Shelf

/-! Two shelves on one disk. -/
def full (L : List ByteArray) : List Pl := L.map fun t => ⟨1, t⟩
theorem full_length (L : List ByteArray) : (full L).length = L.length := by simp [full]
theorem low_full : ∀ L : List ByteArray, low (full L) = L.length
  | [] => rfl
  | t :: L => by
    show (if (1 : UInt8) = 0 then 0 else low (full L) + 1) = L.length + 1
    rw [if_neg (by decide), low_full L]
theorem setP_full (L : List ByteArray) (t : ByteArray) : setP (full L) (low (full L)) ⟨1, t⟩ = full (L ++ [t]) := by
  unfold setP
  rw [if_pos (by rw [low_full, full_length])]
  simp [full]
theorem txs_full : ∀ (L : List ByteArray) (k : Nat), txs (ents k (full L)) = L
  | [], k => rfl
  | t :: L, k => by
    show txs (if (1 : UInt8) = 0 then ents (k + 1) (full L) else (k, t) :: ents (k + 1) (full L)) = t :: L
    rw [if_neg (by decide)]
    show t :: txs (ents (k + 1) (full L)) = t :: L
    rw [txs_full L]
section
variable {w W W' : World} {O O' Q Q' Pb : Nat → Nat} {d bb fb nb : Nat} {D D' : Ds} {ps : List Pl}
/-- What another one's call leaves of a shelf. -/
theorem Sf.spared (hb : Sf w W d O Pb bb fb nb D ps) (h' : D1 w W' d O' D') (hc : Calm D') (f : Fp (fun k => O k + Q k) W (fun k => O' k + Q' k) W') (hap : ∀ k, Pb k ≠ 0 → Q k = 0) (hnow : D'.now fb = D.now fb) :
    Sf w W' d O' Pb bb fb nb D' ps ∧ ∀ k, Pb k ≠ 0 → Q' k = 0 := by
  obtain ⟨pv, hs⟩ := hb.sh.sb
  have hz : ∀ k, Pb k ≠ 0 → O k + Q k = 0 := fun k hk => by rw [hb.sh.ap k hk, hap k hk]
  have hz' : ∀ k, Pb k ≠ 0 → O' k + Q' k = 0 := fun k hk => f.old k (hs.lt k hk) (hz k hk)
  refine ⟨⟨⟨h', ⟨pv, hs.same fun k hk => f.keep k (hs.lt k hk) (hz k hk)⟩, hb.sh.lo, fun k hk => by have := hz' k hk; omega⟩, hc, ?_, hb.lay.most⟩, fun k hk => by have := hz' k hk; omega⟩
  rw [hnow]
  exact hb.lay.len
end
theorem fp_more {O Q O' Q' P : Nat → Nat} {W W' : World} (f : Fp (fun k => O k + Q k) W (fun k => O' k + Q' k) W') : Fp (fun k => O k + Q k + P k) W (fun k => O' k + Q' k + P k) W' :=
  ⟨f.os, f.tape, f.output, f.size, fun k hk h => by
    have h1 : O k + Q k + P k = 0 := h
    have := f.old k hk (by show O k + Q k = 0; omega)
    show O' k + Q' k + P k = 0
    have h2 : O' k + Q' k = 0 := this
    omega, fun k hk h => f.keep k hk (by have h1 : O k + Q k + P k = 0 := h; show O k + Q k = 0; omega), f.kf⟩
/-- Two of them: what lies in them, and who owns what. -/
def Two (w W : World) (d : Nat) (T : Nat → Nat) (a b : Nat) (L M : List ByteArray) : Prop :=
  ∃ O Pa Pb D, Sf w W d O Pa a 0 128 D (full L) ∧ Sf w W d O Pb b 1 256 D (full M) ∧ (∀ k, Pa k ≠ 0 → Pb k = 0) ∧ T = fun k => O k + Pa k + Pb k
section
variable {w W W' : World} {T : Nat → Nat} {d a b : Nat} {L M : List ByteArray}
theorem apart_symm {P Q : Nat → Nat} (h : ∀ k, P k ≠ 0 → Q k = 0) : ∀ k, Q k ≠ 0 → P k = 0 := fun k hk => Classical.byContradiction fun h2 => hk (h k h2)
theorem Two.below (h : Two w W d T a b L M) (hb : Below W.heap.size W W') : Two w W' d T a b L M := by
  obtain ⟨O, Pa, Pb, D, h1, h2, h3⟩ := h
  exact ⟨O, Pa, Pb, D, h1.below hb, h2.below hb, h3⟩
theorem Two.bel (h : Two w W d T a b L M) : Below w.heap.size w W := by
  obtain ⟨O, Pa, Pb, D, h1, h2, h3⟩ := h
  exact h1.bel
theorem Two.new (h : Two w W d T a b L M) {k : Nat} (hk : W.heap.size ≤ k) : T k = 0 := by
  obtain ⟨O, Pa, Pb, D, h1, h2, h3, rfl⟩ := h
  have e1 := h1.sh.d1.new hk
  have e2 := h1.sh.pnew hk
  have e3 := h2.sh.pnew hk
  show O k + Pa k + Pb k = 0
  omega
theorem Two.putA (h : Two w W d T a b L M) (tx : ByteArray) (ht : tx.size ≤ 100) (hl : L.length < 128) :
    Calls Try.prog 29 #[.pointer (some ⟨a, 0, none⟩), .string tx] W fun e w' => e = .returned (.tuple #[.int .i64 (L.length : Int), .int .i64 0]) ∧ ∃ T', Two w w' d T' a b (L ++ [tx]) M ∧ Fp T W T' w' := by
  obtain ⟨O, Pa, Pb, D, h1, h2, h3, rfl⟩ := h
  refine (h1.put (by omega) (by omega) tx (by omega) (by rw [low_full]; exact hl)).mono ?_
  rintro e w' ⟨rfl, O', P', D', h4, f4, hn⟩
  obtain ⟨h5, h6⟩ := h2.spared h4.sh.d1 h4.lay.calm f4 (apart_symm h3) (hn 1 (by omega))
  rw [setP_full] at h4
  rw [low_full]
  exact ⟨rfl, _, ⟨O', P', Pb, D', h4, h5, apart_symm h6, rfl⟩, fp_more f4⟩
theorem Two.putB (h : Two w W d T a b L M) (tx : ByteArray) (ht : tx.size ≤ 100) (hl : M.length < 128) :
    Calls Try.prog 29 #[.pointer (some ⟨b, 0, none⟩), .string tx] W fun e w' => e = .returned (.tuple #[.int .i64 (M.length : Int), .int .i64 0]) ∧ ∃ T', Two w w' d T' a b L (M ++ [tx]) ∧ Fp T W T' w' := by
  obtain ⟨O, Pa, Pb, D, h1, h2, h3, rfl⟩ := h
  refine (h2.put (by omega) (by omega) tx (by omega) (by rw [low_full]; exact hl)).mono ?_
  rintro e w' ⟨rfl, O', P', D', h4, f4, hn⟩
  obtain ⟨h5, h6⟩ := h1.spared h4.sh.d1 h4.lay.calm f4 h3 (hn 0 (by omega))
  rw [setP_full] at h4
  rw [low_full]
  refine ⟨rfl, _, ⟨O', Pa, P', D', h5, h4, h6, rfl⟩, ?_⟩
  have f5 := fp_more (P := Pa) f4
  have e1 : (fun k => O k + Pb k + Pa k) = fun k => O k + Pa k + Pb k := by funext k; omega
  have e2 : (fun k => O' k + P' k + Pa k) = fun k => O' k + Pa k + P' k := by funext k; omega
  rw [e1, e2] at f5
  exact f5
theorem Two.textsA (h : Two w W d T a b L M) : Calls Try.prog 38 #[.pointer (some ⟨a, 0, none⟩)] W fun e w' => ∃ v, e = .returned v ∧ Or 9 cS w' W.heap.size v L ∧ Below W.heap.size W w' := by
  obtain ⟨O, Pa, Pb, D, h1, h2, h3, rfl⟩ := h
  obtain ⟨pv, hs⟩ := h1.sh.sb
  have := texts10 (shv_box d 0 128 (by omega) (by omega)) hs h1.lay.most
  rw [txs_full] at this
  exact this
theorem Two.textsB (h : Two w W d T a b L M) : Calls Try.prog 38 #[.pointer (some ⟨b, 0, none⟩)] W fun e w' => ∃ v, e = .returned v ∧ Or 9 cS w' W.heap.size v M ∧ Below W.heap.size W w' := by
  obtain ⟨O, Pa, Pb, D, h1, h2, h3, rfl⟩ := h
  obtain ⟨pv, hs⟩ := h2.sh.sb
  have := texts10 (shv_box d 1 256 (by omega) (by omega)) hs h2.lay.most
  rw [txs_full] at this
  exact this
end
/-- The second one is opened. -/
theorem two_open {w W : World} {d : Nat} {O Pa : Nat → Nat} {a : Nat} {D : Ds} (h : Sf w W d O Pa a 0 128 D []) (h0 : D.now 1 = []) :
    Calls Try.prog 22 #[.pointer (some ⟨d, 0, none⟩), .int .i64 1, .int .i64 256] W fun e w' => e = .returned (.tuple #[.pointer (some ⟨W.heap.size, 0, none⟩), .int .i64 0]) ∧ ∃ T, Two w w' d T a W.heap.size [] [] := by
  refine (Sf.open (f := 1) (n := 256) h.sh.d1 h.lay.calm (by omega) (by omega) h0).mono ?_
  rintro e w' ⟨rfl, O', P', h2, f2⟩
  have f3 : Fp (fun k => O k + (fun _ => 0) k) W (fun k => O' k + P' k) w' := f2
  obtain ⟨h5, h6⟩ := h.spared h2.sh.d1 h2.lay.calm f3 (fun _ _ => rfl) (by rw [(h.lay.calm.psy (by omega)).2])
  exact ⟨rfl, _, O', Pa, P', _, h5, h2, h6, rfl⟩
/-- A step that leaves what is owned. -/
theorem Two.keep {w W W' : World} {T : Nat → Nat} {d a b : Nat} {L M : List ByteArray} (h : Two w W d T a b L M) (hk : ∀ k, T k ≠ 0 → W'.heap[k]? = W.heap[k]?) (hz : W.heap.size ≤ W'.heap.size) (hb : Below w.heap.size w W') : Two w W' d T a b L M := by
  obtain ⟨O, Pa, Pb, D, h1, h2, h3, rfl⟩ := h
  have hd : D1 w W' d O D := h1.sh.d1.keep (fun k h0 => hk k (by show O k + Pa k + Pb k ≠ 0; omega)) hz hb
  obtain ⟨pa, ha⟩ := h1.sh.sb
  obtain ⟨pb, hb2⟩ := h2.sh.sb
  exact ⟨O, Pa, Pb, D, ⟨⟨hd, ⟨pa, ha.same fun k h0 => hk k (by show O k + Pa k + Pb k ≠ 0; omega)⟩, h1.sh.lo, h1.sh.ap⟩, h1.lay⟩, ⟨⟨hd, ⟨pb, hb2.same fun k h0 => hk k (by show O k + Pa k + Pb k ≠ 0; omega)⟩, h2.sh.lo, h2.sh.ap⟩, h2.lay⟩, h3, rfl⟩
/-- Two shelves, and beside them two rows of what was put. -/
def TJ (w1 wr : World) (d a b : Nat) (L' M' : List ByteArray) (lv mv : Value) (L M : List ByteArray) : Prop :=
  ∃ T, Two w1 wr d T a b L' M' ∧ Or 9 cS wr w1.heap.size lv L ∧ Or 9 cS wr w1.heap.size mv M ∧ (∀ g, lv.ownBlock = some g → T g = 0 ∧ mv.ownBlock ≠ some g) ∧ (∀ g, mv.ownBlock = some g → T g = 0)
section
variable {w1 wr w' w3 : World} {d a b : Nat} {L' M' L M : List ByteArray} {lv mv v3 : Value}
theorem TJ.below (h : TJ w1 wr d a b L' M' lv mv L M) (hb : Below wr.heap.size wr w') : TJ w1 w' d a b L' M' lv mv L M := by
  obtain ⟨T, h1, h2, h3, h4, h5⟩ := h
  exact ⟨T, h1.below hb, h2.below' hb, h3.below' hb, h4, h5⟩
theorem TJ.bel (h : TJ w1 wr d a b L' M' lv mv L M) : Below w1.heap.size w1 wr := by obtain ⟨T, h1, _⟩ := h; exact h1.bel
theorem TJ.fp {T T' : Nat → Nat} (h2 : Or 9 cS wr w1.heap.size lv L) (h4 : ∀ g, lv.ownBlock = some g → T g = 0) (f : Fp T wr T' w') : Or 9 cS w' w1.heap.size lv L ∧ ∀ g, lv.ownBlock = some g → T' g = 0 :=
  ⟨ownsRow_same h2 fun k hk => f.keep k (h2.ge hk).2 (h4 k hk), fun g hg => f.old g (h2.ge hg).2 (h4 g hg)⟩
theorem TJ.putA (h : TJ w1 wr d a b L' M' lv mv L M) (tx : ByteArray) (ht : tx.size ≤ 100) (hl : L'.length < 128) :
    Calls Try.prog 29 #[.pointer (some ⟨a, 0, none⟩), .string tx] wr fun e w' => e = .returned (.tuple #[.int .i64 (L'.length : Int), .int .i64 0]) ∧ TJ w1 w' d a b (L' ++ [tx]) M' lv mv L M := by
  obtain ⟨T, h1, h2, h3, h4, h5⟩ := h
  refine (h1.putA tx ht hl).mono ?_
  rintro e w' ⟨rfl, T', h6, f⟩
  obtain ⟨r1, r2⟩ := TJ.fp h2 (fun g hg => (h4 g hg).1) f
  obtain ⟨r3, r4⟩ := TJ.fp h3 h5 f
  exact ⟨rfl, T', h6, r1, r3, fun g hg => ⟨r2 g hg, (h4 g hg).2⟩, r4⟩
theorem TJ.putB (h : TJ w1 wr d a b L' M' lv mv L M) (tx : ByteArray) (ht : tx.size ≤ 100) (hl : M'.length < 128) :
    Calls Try.prog 29 #[.pointer (some ⟨b, 0, none⟩), .string tx] wr fun e w' => e = .returned (.tuple #[.int .i64 (M'.length : Int), .int .i64 0]) ∧ TJ w1 w' d a b L' (M' ++ [tx]) lv mv L M := by
  obtain ⟨T, h1, h2, h3, h4, h5⟩ := h
  refine (h1.putB tx ht hl).mono ?_
  rintro e w' ⟨rfl, T', h6, f⟩
  obtain ⟨r1, r2⟩ := TJ.fp h2 (fun g hg => (h4 g hg).1) f
  obtain ⟨r3, r4⟩ := TJ.fp h3 h5 f
  exact ⟨rfl, T', h6, r1, r3, fun g hg => ⟨r2 g hg, (h4 g hg).2⟩, r4⟩
theorem TJ.swap_ap (h4 : ∀ g, lv.ownBlock = some g → mv.ownBlock ≠ some g) : ∀ g, mv.ownBlock = some g → lv.ownBlock ≠ some g := fun g hg hl => h4 g hl hg
/-- One row grows. -/
theorem TJ.grow {T : Nat → Nat} {o : Obj} {s : ByteArray} (h1 : Two w1 wr d T a b L' M') (h2 : Or 9 cS wr w1.heap.size lv L) (h3 : Or 9 cS wr w1.heap.size mv M) (h4 : ∀ g, lv.ownBlock = some g → T g = 0 ∧ mv.ownBlock ≠ some g)
    (hown : w3.ownsRow w1.heap.size 9 1 v3 (L.length + 1) (L.map cS ++ [cS s])) (hgr : (wr.alloc o).grownBy w3 lv.ownBlock) (hsn : Sn (wr.alloc o) lv v3) :
    Two w1 w3 d T a b L' M' ∧ Or 9 cS w3 w1.heap.size v3 (L ++ [s]) ∧ Or 9 cS w3 w1.heap.size mv M ∧ (∀ g, v3.ownBlock = some g → T g = 0 ∧ mv.ownBlock ≠ some g) := by
  have hz : (wr.alloc o).heap.size = wr.heap.size + 1 := by simp
  have hs := hgr.size
  have hw := h1.bel.size
  have hkk : ∀ k, k < wr.heap.size → lv.ownBlock ≠ some k → w3.heap[k]? = wr.heap[k]? := fun k hk hne => (hgr.block k (by omega) (fun e => hne e.symm)).trans (Below.heap_alloc wr o k hk)
  refine ⟨h1.keep (fun k hk => ?_) (by omega) ((h1.bel.alloc hw o).grown hgr (by omega) (fun k e => (h2.ge e).1)), ?_, ownsRow_same h3 fun k hk => hkk k (h3.ge hk).2 (fun e => (h4 k e).2 hk), fun g hg => ?_⟩
  · exact hkk k (Classical.byContradiction fun h0 => hk (h1.new (by omega))) (fun e => hk (h4 k e).1)
  · show World.ownsRow _ _ _ _ _ _ _
    rw [List.map_append, List.length_append]
    exact hown
  · rcases hsn with e | e
    · exact h4 g (by rw [← e]; exact hg)
    · have := e g hg
      exact ⟨h1.new (by omega), fun h0 => by have := (h3.ge h0).2; omega⟩
theorem TJ.appA {o : Obj} {s : ByteArray} (h : TJ w1 wr d a b L' M' lv mv L M) (hown : w3.ownsRow w1.heap.size 9 1 v3 (L.length + 1) (L.map cS ++ [cS s])) (hgr : (wr.alloc o).grownBy w3 lv.ownBlock) (hsn : Sn (wr.alloc o) lv v3) : TJ w1 w3 d a b L' M' v3 mv (L ++ [s]) M := by
  obtain ⟨T, h1, h2, h3, h4, h5⟩ := h
  obtain ⟨r1, r2, r3, r4⟩ := TJ.grow h1 h2 h3 h4 hown hgr hsn
  exact ⟨T, r1, r2, r3, r4, h5⟩
theorem TJ.appB {o : Obj} {s : ByteArray} (h : TJ w1 wr d a b L' M' lv mv L M) (hown : w3.ownsRow w1.heap.size 9 1 v3 (M.length + 1) (M.map cS ++ [cS s])) (hgr : (wr.alloc o).grownBy w3 mv.ownBlock) (hsn : Sn (wr.alloc o) mv v3) : TJ w1 w3 d a b L' M' lv v3 L (M ++ [s]) := by
  obtain ⟨T, h1, h2, h3, h4, h5⟩ := h
  obtain ⟨r1, r2, r3, r4⟩ := TJ.grow h1 h3 h2 (fun g hg => ⟨h5 g hg, TJ.swap_ap (fun g hg => (h4 g hg).2) g hg⟩) hown hgr hsn
  exact ⟨T, r1, r3, r2, fun g hg => ⟨(h4 g hg).1, fun h0 => (r4 g h0).2 hg⟩, fun g hg => (r4 g hg).1⟩
theorem TJ.textsA (h : TJ w1 wr d a b L' M' lv mv L M) : Calls Try.prog 38 #[.pointer (some ⟨a, 0, none⟩)] wr fun e w' => ∃ v, e = .returned v ∧ Or 9 cS w' wr.heap.size v L' ∧ TJ w1 w' d a b L' M' lv mv L M := by
  have h9 := h
  obtain ⟨T, h1, _⟩ := h
  refine h1.textsA.mono ?_
  rintro e w' ⟨v, rfl, hr, hb⟩
  exact ⟨v, rfl, hr, h9.below hb⟩
theorem TJ.textsB (h : TJ w1 wr d a b L' M' lv mv L M) : Calls Try.prog 38 #[.pointer (some ⟨b, 0, none⟩)] wr fun e w' => ∃ v, e = .returned v ∧ Or 9 cS w' wr.heap.size v M' ∧ TJ w1 w' d a b L' M' lv mv L M := by
  have h9 := h
  obtain ⟨T, h1, _⟩ := h
  refine h1.textsB.mono ?_
  rintro e w' ⟨v, rfl, hr, hb⟩
  exact ⟨v, rfl, hr, h9.below hb⟩
theorem TJ.eqA (h : TJ w1 wr d a b L' M' lv mv L M) {v : Value} {base : Nat} (hr : Or 9 cS wr base v L) (hs : ∀ x ∈ L, x.size ≤ 100) : Calls Try.prog 41 #[v, lv] wr fun e w' => e = .returned (.bool true) ∧ TJ w1 w' d a b L' M' lv mv L M := by
  have h9 := h
  obtain ⟨T, h1, h2, _⟩ := h
  have hm : ∀ x ∈ L, x.size ≤ maxLen := fun x hx => by have := hs x hx; unfold maxLen; omega
  refine (eqStr10 v lv L L wr (hr.ss hm) (h2.ss hm)).mono ?_
  rintro e w' ⟨rfl, hb⟩
  exact ⟨by rw [decide_eq_true rfl], h9.below hb⟩
theorem TJ.eqB (h : TJ w1 wr d a b L' M' lv mv L M) {v : Value} {base : Nat} (hr : Or 9 cS wr base v M) (hs : ∀ x ∈ M, x.size ≤ 100) : Calls Try.prog 41 #[v, mv] wr fun e w' => e = .returned (.bool true) ∧ TJ w1 w' d a b L' M' lv mv L M := by
  have h9 := h
  obtain ⟨T, h1, _, h2, _⟩ := h
  have hm : ∀ x ∈ M, x.size ≤ maxLen := fun x hx => by have := hs x hx; unfold maxLen; omega
  refine (eqStr10 v mv M M wr (hr.ss hm) (h2.ss hm)).mono ?_
  rintro e w' ⟨rfl, hb⟩
  exact ⟨by rw [decide_eq_true rfl], h9.below hb⟩
end
end Go.Proofs.Ytjbhegakgdcldaa

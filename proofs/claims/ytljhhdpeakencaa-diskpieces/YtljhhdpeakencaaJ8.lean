/- Texts joined: CrP Few9 PgC0. -/
import Derived.Test.YtljhhdpeakencaaJ4
import Derived.Test.YtljhhdpeakencaaJ7
import Derived.Test.YtljhhdpeakencaaPgN
section
set_option linter.unusedSimpArgs false
set_option linter.unusedVariables false
namespace Go.Proofs.Ytljhhdpeakencaa
open Go.RowKit

/-! What a crash keeps, file by file, as the page reckons it. -/
/-- The k-th pick, as the page reads it: what lacks, or is below 0, is 1. -/
def pkk (ps : List Int) (k : Nat) : Int := if k < ps.length ∧ 0 ≤ ps.getD k 0 then ps.getD k 0 else 1
def pst (c : Ch) (p : Int) (r : List UInt8) : List UInt8 := match kpt c p with
  | none => r
  | some c' => ovr c' r
def crI (ps : List Int) : List Ch → Nat → List UInt8 → List UInt8
  | [], _, r => r
  | c :: cs, k, r => crI ps cs (k + 1) (pst c (pkk ps k) r)
def crK (ps : List Int) : List (Nat × Ch) → Nat → (Nat → List UInt8) → (Nat → List UInt8)
  | [], _, r => r
  | x :: xs, k, r => crK ps xs (k + 1) (stp r x (pkk ps k))
theorem kpt_low {c : Ch} {p : Int} (h : p < 0 ∨ p = 1) : kpt c p = none := by
  unfold kpt
  rw [if_neg (by omega), if_pos (.inr (by omega))]
theorem stp_none {r : Nat → List UInt8} {x : Nat × Ch} {p : Int} (h : kpt x.2 p = none) : stp r x p = r := by unfold stp; rw [h]
theorem crL_none (xs : List (Nat × Ch)) (r : Nat → List UInt8) : crL r xs [] = r := by unfold crL; simp
theorem crL_cons (r : Nat → List UInt8) (x : Nat × Ch) (xs : List (Nat × Ch)) (p : Int) (ps : List Int) : crL r (x :: xs) (p :: ps) = crL (stp r x p) xs ps := rfl
theorem crL_crK (ps : List Int) (xs : List (Nat × Ch)) : ∀ (k : Nat) (r : Nat → List UInt8), crL r xs (ps.drop k) = crK ps xs k r := by
  induction xs with
  | nil => intro k r; rfl
  | cons x xs ih =>
    intro k r
    show _ = crK ps xs (k + 1) (stp r x (pkk ps k))
    by_cases hk : k < ps.length
    · rw [List.drop_eq_getElem_cons hk, crL_cons]
      have e : stp r x ps[k] = stp r x (pkk ps k) := by
        have e1 : ps.getD k 0 = ps[k] := by simp [List.getD, hk]
        by_cases hp : 0 ≤ ps[k]
        · rw [show pkk ps k = ps[k] by unfold pkk; rw [e1, if_pos ⟨hk, hp⟩]]
        · rw [show pkk ps k = 1 by unfold pkk; rw [e1, if_neg (fun h => hp h.2)], stp_none (kpt_low (.inl (by omega))), stp_none (kpt_low (.inr rfl))]
      rw [e]
      exact ih (k + 1) _
    · rw [List.drop_eq_nil_of_le (by omega), crL_none]
      have e1 : pkk ps k = 1 := by unfold pkk; rw [if_neg (fun h => hk h.1)]
      rw [e1, stp_none (kpt_low (.inr rfl)), ← ih (k + 1) r, List.drop_eq_nil_of_le (by omega), crL_none]
theorem crK_append (ps : List Int) (xs ys : List (Nat × Ch)) : ∀ (k : Nat) (r : Nat → List UInt8), crK ps (xs ++ ys) k r = crK ps ys (k + xs.length) (crK ps xs k r) := by
  induction xs with
  | nil => intro k r; rfl
  | cons x xs ih =>
    intro k r
    show crK ps (xs ++ ys) (k + 1) _ = crK ps ys (k + (xs.length + 1)) (crK ps xs (k + 1) _)
    rw [ih, show k + 1 + xs.length = k + (xs.length + 1) by omega]
theorem upd_me {α : Type} (f : Nat → α) (i : Nat) : upd f i (f i) = f := by
  funext j; unfold upd; split
  · next h => rw [h]
  · rfl
theorem upd_two {α : Type} (f : Nat → α) (i : Nat) (x y : α) : upd (upd f i x) i y = upd f i y := by
  funext j; unfold upd; split <;> rfl
theorem crK_file (ps : List Int) (f : Nat) (cs : List Ch) : ∀ (k : Nat) (r : Nat → List UInt8), crK ps (cs.map fun c => (f, c)) k r = upd r f (crI ps cs k (r f)) := by
  induction cs with
  | nil => intro k r; exact (upd_me r f).symm
  | cons c cs ih =>
    intro k r
    show crK ps (cs.map fun c => (f, c)) (k + 1) (stp r (f, c) (pkk ps k)) = upd r f (crI ps cs (k + 1) (pst c (pkk ps k) (r f)))
    rw [ih]
    unfold stp pst
    cases kpt c (pkk ps k) with
    | none => rfl
    | some c' =>
      show upd (upd r f (ovr c' (r f))) f (crI ps cs (k + 1) (upd r f (ovr c' (r f)) f)) = upd r f (crI ps cs (k + 1) (ovr c' (r f)))
      rw [upd_same]; exact upd_two _ _ _ _
/-- What the page's Crash makes of a file. -/
def pcr (D : Ds) (ps : List Int) (f : Nat) : List UInt8 := crI ps (D.chs f) (gl D f).length (D.safe f)
theorem crash_upto (D : Ds) (ps : List Int) : ∀ n, crK ps (gl D n) 0 D.safe = fun i => if i < n then pcr D ps i else D.safe i := by
  intro n
  induction n with
  | zero => funext i; rw [if_neg (by omega)]; rfl
  | succ n ih =>
    rw [gl_succ, crK_append, ih, crK_file, Nat.zero_add]
    funext i
    by_cases e : i = n
    · subst e
      rw [upd_same, if_pos (Nat.lt_succ_self i)]
      show crI ps (D.chs i) (gl D i).length (if i < i then pcr D ps i else D.safe i) = _
      rw [if_neg (Nat.lt_irrefl i)]
      rfl
    · rw [upd_other _ _ e]
      show (if i < n then pcr D ps i else D.safe i) = _
      by_cases h : i < n
      · rw [if_pos h, if_pos (by omega)]
      · rw [if_neg h, if_neg (by omega)]
theorem crash_page (D : Ds) (ps : List Int) (i : Nat) (hi : i < 8) : crash D ps i = pcr D ps i := by
  have h := crL_crK ps (gl D 8) 0 D.safe
  rw [List.drop_zero, crash_upto] at h
  show crL D.safe (gl D 8) ps i = _
  rw [h]
  exact if_pos hi
/-- One change more of a file. -/
theorem crI_snoc (ps : List Int) (cs : List Ch) (c : Ch) : ∀ (k : Nat) (r : List UInt8), crI ps (cs ++ [c]) k r = pst c (pkk ps (k + cs.length)) (crI ps cs k r) := by
  induction cs with
  | nil => intro k r; rfl
  | cons x cs ih =>
    intro k r
    show crI ps (cs ++ [c]) (k + 1) _ = pst c (pkk ps (k + (cs.length + 1))) (crI ps cs (k + 1) _)
    rw [ih, show k + 1 + cs.length = k + (cs.length + 1) by omega]
theorem pst_le {c : Ch} (hc : ChB c) (p : Int) {r : List UInt8} (hr : r.length ≤ 131072) : (pst c p r).length ≤ 131072 := by
  unfold pst
  cases h : kpt c p with
  | none => exact hr
  | some c' =>
    have h1 : c'.pos = c.pos ∧ c'.bs.length ≤ c.bs.length := by
      unfold kpt at h
      split at h
      · simp at h; subst h; exact ⟨rfl, Nat.le_refl _⟩
      · split at h
        · simp at h
        · simp at h; subst h; exact ⟨rfl, by simp; omega⟩
    have := ovr_le c' r
    have := hc.1
    show (ovr c' r).length ≤ _
    omega
theorem crI_le (ps : List Int) (cs : List Ch) (hc : ∀ c ∈ cs, ChB c) : ∀ (k : Nat) (r : List UInt8), r.length ≤ 131072 → (crI ps cs k r).length ≤ 131072 := by
  induction cs with
  | nil => intro k r h; exact h
  | cons x cs ih => intro k r h; exact ih (fun c h => hc c (List.mem_cons_of_mem _ h)) _ _ (pst_le (hc x (List.mem_cons_self ..)) _ h)
/-- What the page does with a change, case by case. -/
theorem pst_cut0 {c : Ch} (hc : c.cut = true) (r : List UInt8) : pst c 0 r = r.take c.pos := by unfold pst kpt; rw [if_pos rfl]; exact ovr_cut hc r
theorem pst_cut1 {c : Ch} (hc : c.cut = true) {p : Int} (hp : p ≠ 0) (r : List UInt8) : pst c p r = r := by unfold pst kpt; rw [if_neg hp, if_pos (.inl hc)]
theorem pst_all {c : Ch} (hc : c.cut = false) (r : List UInt8) : pst c 0 r = splice (pad r (c.pos + c.bs.length)) c.pos c.bs := by unfold pst kpt; rw [if_pos rfl]; exact ovr_piece hc r
theorem pst_few {c : Ch} {p : Int} (h0 : p ≠ 0) (hp : p ≤ 2) (r : List UInt8) : pst c p r = r := by unfold pst kpt; rw [if_neg h0, if_pos (.inr hp)]
theorem pst_some {c : Ch} (hc : c.cut = false) {p : Int} (hp : 2 < p) (r : List UInt8) {n : Nat} (hn : n = min c.bs.length (p - 2).toNat) : pst c p r = splice (pad r (c.pos + (c.bs.take n).length)) c.pos (c.bs.take n) := by
  unfold pst kpt
  rw [if_neg (by omega), if_neg (fun h => by rcases h with h | h; · rw [hc] at h; cases h
                                             · omega)]
  have e : c.bs.take n = c.bs.take (p - 2).toNat := by
    rw [hn]
    by_cases h : (p - 2).toNat ≤ c.bs.length
    · rw [Nat.min_eq_right h]
    · rw [Nat.min_eq_left (by omega), List.take_of_length_le (Nat.le_refl _), List.take_of_length_le (by omega)]
  rw [e]
  exact ovr_piece (c := { c with bs := c.bs.take (p - 2).toNat }) hc r
end Go.Proofs.Ytljhhdpeakencaa
end
section
set_option linter.unusedSimpArgs false
set_option linter.unusedVariables false
namespace Go.Proofs.Ytljhhdpeakencaa
open Go.RowKit

/-! A disk behind n acts: what it always is, and no more changes than so many. -/
structure Few (D : Ds) (n : Nat) : Prop where
  inv : Inv D
  few : ∀ i, i < 8 → (D.chs i).length ≤ n * 131072
theorem Few.le {D : Ds} {n m : Nat} (h : Few D n) (hm : n ≤ m) : Few D m := ⟨h.inv, fun i hi => Nat.le_trans (h.few i hi) (Nat.mul_le_mul_right _ hm)⟩
theorem Few.offD {D : Ds} {n : Nat} (h : Few D n) (k : Int) : Few (offD D k) n := ⟨h.inv.offD k, h.few⟩
theorem Few.failD {D : Ds} {n : Nat} (h : Few D n) (k : Int) : Few (failD D k) n := ⟨h.inv.failD k, h.few⟩
theorem Few.wrD {D : Ds} {n : Nat} (h : Few D n) (f at_ : Int) (bs : List UInt8) : Few (wrD D f at_ bs) (n + 1) := by
  refine ⟨h.inv.wrD f at_ bs, fun i hi => ?_⟩
  have hq0 := h.few i hi
  rw [Nat.add_mul, Nat.one_mul]
  generalize n * 131072 = q at hq0 ⊢
  by_cases hw : wrE D f at_ bs.length = 0
  · obtain ⟨h0, j, a, rfl, hj, rfl, ha, hab⟩ := wrE_ok hw
    have e : Go.Proofs.Ytljhhdpeakencaa.wrD D (j : Int) (a : Int) bs = Go.Proofs.Ytljhhdpeakencaa.wrL (Go.Proofs.Ytljhhdpeakencaa.cnt D) j a bs (pcs a bs.length 0) := by unfold Go.Proofs.Ytljhhdpeakencaa.wrD; rw [if_pos hw, Int.toNat_natCast, Int.toNat_natCast]
    rw [e]
    by_cases hij : i = j
    · subst hij
      rw [wr_chs]
      have h1 := pcs_len a bs.length bs.length 0 (by omega)
      have h2 : ((Go.Proofs.Ytljhhdpeakencaa.cnt D).chs i).length ≤ q := hq0
      omega
    · have e2 : ∀ (xs : List (Nat × Nat)) (E : Ds), (Go.Proofs.Ytljhhdpeakencaa.wrL E j a bs xs).chs i = E.chs i := by
        intro xs
        induction xs with
        | nil => intro E; rfl
        | cons x xs ih =>
          intro E
          have h3 := ih (Go.Proofs.Ytljhhdpeakencaa.chg E j (pch a bs x))
          refine Eq.trans h3 ?_
          show upd E.chs j _ i = _
          exact upd_other _ _ hij
      rw [e2]
      have h2 : ((Go.Proofs.Ytljhhdpeakencaa.cnt D).chs i).length ≤ q := hq0
      omega
  · have e : Go.Proofs.Ytljhhdpeakencaa.wrD D f at_ bs = Go.Proofs.Ytljhhdpeakencaa.cnt D := if_neg hw
    rw [e]
    have h2 : ((Go.Proofs.Ytljhhdpeakencaa.cnt D).chs i).length ≤ q := hq0
    omega
theorem Few.cutD {D : Ds} {n : Nat} (h : Few D n) (f k : Int) : Few (cutD D f k) (n + 1) := by
  refine ⟨h.inv.cutD f k, fun i hi => ?_⟩
  have h2 := h.few i hi
  rw [Nat.add_mul, Nat.one_mul]
  generalize n * 131072 = q at h2 ⊢
  unfold Go.Proofs.Ytljhhdpeakencaa.cutD
  split
  · show (upd D.chs f.toNat (D.chs f.toNat ++ [_]) i).length ≤ _
    by_cases e : i = f.toNat
    · subst e
      rw [upd_same, List.length_append, List.length_singleton]
      omega
    · rw [upd_other _ _ e]
      omega
  · show (D.chs i).length ≤ _
    omega
theorem Few.psyD {D : Ds} {n : Nat} (h : Few D n) (f : Int) : Few (psyD D f) n := by
  refine ⟨h.inv.psyD f, fun i hi => ?_⟩
  have h2 := h.few i hi
  unfold Go.Proofs.Ytljhhdpeakencaa.psyD
  split
  · show (upd D.chs f.toNat [] i).length ≤ _
    by_cases e : i = f.toNat
    · subst e; rw [upd_same]; simp
    · rw [upd_other _ _ e]; omega
  · exact h2
theorem Few.off {D : Ds} {n : Nat} (h : Few D n) (b : Bool) : Few { D with off := b } n := ⟨⟨h.inv.now, h.inv.len, h.inv.saf, h.inv.chb⟩, h.few⟩
theorem Few.crash {D : Ds} {n : Nat} (h : Few D n) (ps : List Int) (i : Nat) (hi : i < 8) : (crash D ps i).length ≤ 131072 := by
  rw [crash_page D ps i hi]
  exact crI_le ps _ (h.inv.chb i hi) _ _ (h.inv.saf i hi)
theorem getD_small {ls : List (List UInt8)} (h : Sml ls) (i : Nat) : (ls.getD i []).length ≤ 131072 := by
  by_cases hi : i < ls.length
  · have : ls.getD i [] = ls[i] := by simp [List.getD, hi]
    rw [this]
    exact h _ (List.getElem_mem hi)
  · have : ls.getD i [] = [] := by simp [List.getD, hi]
    rw [this]
    simp
theorem Few.new {ls : List (List UInt8)} (h : Sml ls) (n m : Nat) : Few (dsN ls n) m := by
  have hl : ∀ i, (if i < n then ls.getD i [] else []).length ≤ 131072 := fun i => by
    split
    · exact getD_small h i
    · simp
  exact ⟨⟨fun i hi => rfl, fun i hi => hl i, fun i hi => hl i, fun i hi c hc => by cases hc⟩, fun i hi => by show ([] : List Ch).length ≤ _; simp⟩
theorem dsN_nil (n m : Nat) : dsN [] n = dsN [] m := by
  unfold dsN
  have e : ∀ k : Nat, (fun i => if i < k then ([] : List (List UInt8)).getD i [] else []) = fun _ => ([] : List UInt8) := fun k => by
    funext i
    split
    · rfl
    · rfl
  rw [e n, e m]
theorem dsN_len {ls : List (List UInt8)} (h : ls.length = 0 ∨ ls.length = 8) : dsN ls ls.length = dsN ls 8 := by
  rcases h with h | h
  · have : ls = [] := List.length_eq_zero_iff.1 h
    subst this
    exact dsN_nil _ _
  · rw [h]
/-- Eight rows of a crash, read. -/
theorem RW.rl {W : World} {T : Nat → Nat} {rb pb : Nat} {rv : Nat → Value} {pv : Value} {r : Nat → List UInt8} (h : RW W T rb pb rv pv r) (hr : ∀ i, i < 8 → (r i).length ≤ 9223372036854775807) : Rl W (.slice (some ⟨rb, 0, none⟩) 8 8) ((List.range 8).map r) := by
  refine ⟨some ⟨rb, 0, none⟩, 8, by simp, by simp, by simp, fun i hi => ?_⟩
  have hi8 : i < 8 := by simpa using hi
  refine ⟨rb, 0, rv i, rfl, ?_, ?_⟩
  · rw [Nat.zero_add, h.blk.cell i]
    exact r8_at rv hi8
  · have e : ∀ (l : List (List UInt8)), l = (List.range 8).map r → ∀ (h : i < l.length), l[i] = r i := fun l hl h => by subst hl; rw [List.getElem_map, List.getElem_range]
    rw [e _ rfl hi]
    exact (h.ow i hi8).rb (hr i hi8)
theorem small_crash {D : Ds} {n : Nat} (h : Few D n) (ps : List Int) : Sml ((List.range 8).map (Go.Proofs.Ytljhhdpeakencaa.crash D ps)) := fun l hl => by
  obtain ⟨i, hi, rfl⟩ := List.mem_map.1 hl
  exact h.crash ps i (by simpa using hi)
end Go.Proofs.Ytljhhdpeakencaa
end
section
set_option linter.unusedSimpArgs false
set_option linter.unusedVariables false
namespace Go.Proofs.Ytljhhdpeakencaa
open Go.RowKit

/-! The page's Crash: what lies there. -/
theorem PCv.at {w : World} {O : Nat → Nat} {v : Value} {l : List Ch} (h : PCv w O v l) (j : Nat) (hj : j < l.length) : ∃ g cap bv, v = .slice (some ⟨g, 0, none⟩) l.length cap ∧ w.cell? ⟨g, j * 3, none⟩ = some (.bool l[j].cut) ∧ w.cell? ⟨g, j * 3 + 1, none⟩ = some (.int .i64 (l[j].pos : Int)) ∧ w.cell? ⟨g, j * 3 + 2, none⟩ = some bv ∧ Ow w 0 bv l[j].bs ∧ g < w.heap.size := by
  obtain ⟨ps, rfl, h2, h3⟩ := h
  have h2' := h2
  have hjp : j < ps.length := by simpa using hj
  rcases h2.2 with ⟨rfl, hz⟩ | ⟨g, cap, cur, rfl, _, hh, _⟩
  · omega
  · have key : ∀ t, t < 3 → w.cell? ⟨g, j * 3 + t, none⟩ = (ccells ps[j])[t]? := fun t ht => by
      rw [World.ownsRow.cellAt h2' (j * 3 + t) (by have := ccells_length ps; omega)]
      have e : ps.flatMap ccells = (ps.take j).flatMap ccells ++ (ccells ps[j] ++ (ps.drop (j + 1)).flatMap ccells) := by
        conv => lhs; rw [← List.take_append_drop j ps, List.drop_eq_getElem_cons hjp]
        rw [List.flatMap_append, List.flatMap_cons]
      have hl : ((ps.take j).flatMap ccells).length = j * 3 := by rw [ccells_length, List.length_take]; omega
      rw [e, List.getElem?_append_right (by omega), hl, Nat.add_sub_cancel_left, List.getElem?_append_left (by simp [ccells]; omega)]
    refine ⟨g, cap, ps[j].2, by rw [List.length_map], ?_, ?_, ?_, ?_, (Array.getElem?_eq_some_iff.1 hh).1⟩
    · have := key 0 (by omega); rw [Nat.add_zero] at this; rw [this]; simp [ccells]
    · have := key 1 (by omega); rw [this]; simp [ccells]
    · have := key 2 (by omega); rw [this]; simp [ccells]
    · have := (h3 ps[j] (List.getElem_mem hjp)).1
      simpa using this
theorem PCv.sl {w : World} {O : Nat → Nat} {v : Value} {l : List Ch} (h : PCv w O v l) : ∃ ad cap, v = .slice ad l.length cap := by
  obtain ⟨ps, rfl, h2, h3⟩ := h
  rcases h2.2 with ⟨rfl, hz⟩ | ⟨g, cap, cur, rfl, _, hh, _⟩
  · exact ⟨none, 0, by rw [List.length_map, hz]⟩
  · exact ⟨_, _, by rw [List.length_map]⟩
theorem gl_len {D : Ds} {q : Nat} (h : ∀ i, i < 8 → (D.chs i).length ≤ q) : ∀ m, m ≤ 8 → (gl D m).length ≤ m * q := by
  intro m
  induction m with
  | zero => intro _; simp [gl]
  | succ m ih =>
    intro hm
    rw [gl_succ, List.length_append, List.length_map, Nat.add_mul, Nat.one_mul]
    exact Nat.add_le_add (ih (by omega)) (h m (by omega))
theorem Lc.below {w w' : World} {base : Nat} {v : Value} {ls : List (List UInt8)} (h : Lc w base v ls) (hb : Below w.heap.size w w') : Lc w' base v ls :=
  h.same (fun b e => hb.block b (h.row b e).2.1) (fun b _ h2 _ => hb.block b h2)
/-- The page's pick of the change at hand. -/
theorem pkk_in {ps : List Int} {k : Nat} (h : k < ps.length) (h0 : 0 ≤ ps[k]) : pkk ps k = ps[k] := by
  unfold pkk
  have e : ps.getD k 0 = ps[k] := by simp [List.getD, h]
  rw [e, if_pos ⟨h, h0⟩]
theorem pkk_neg {ps : List Int} {k : Nat} (h : k < ps.length) (h0 : ¬ 0 ≤ ps[k]) : pkk ps k = 1 := by
  unfold pkk
  have e : ps.getD k 0 = ps[k] := by simp [List.getD, h]
  rw [e, if_neg (fun h => h0 h.2)]
theorem pkk_out {ps : List Int} {k : Nat} (h : ¬ k < ps.length) : pkk ps k = 1 := by
  unfold pkk
  rw [if_neg (fun h2 => h h2.1)]
/-- The off mark. -/
theorem PK.offMark {w : World} {O : Nat → Nat} {d : Nat} {D : Ds} {gl gs gn cl cs cn : Nat} {lv sv cv : Nat → Value} {left bad : Int} {armed off hurt : Bool} (h : PK w O d D gl gs gn cl cs cn lv sv cv left bad armed off hurt) : PKw (w.setCell ⟨d, 6, none⟩ (.bool true)) O d { D with off := true } ∧ Fp O w O (w.setCell ⟨d, 6, none⟩ (.bool true)) := by
  have ht := (Turn.refl h.blk).more 6 (.bool true) rfl
  obtain ⟨r1, r2⟩ := h.turn ht (D' := { D with off := true }) rfl rfl rfl ⟨rfl, fun e => absurd e (by simp), fun e => absurd e (by simp)⟩
  exact ⟨r1.w, r2⟩
end Go.Proofs.Ytljhhdpeakencaa
end

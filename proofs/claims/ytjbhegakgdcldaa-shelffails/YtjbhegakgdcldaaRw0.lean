import Derived.Test.YtjbhegakgdcldaaJ0
import Derived.Test.YtjbhegakgdcldaaSss
import Derived.Deep.Light
import Derived.BigFrame
set_option linter.unusedSimpArgs false
set_option linter.unusedVariables false
namespace Go.Proofs.Ytjbhegakgdcldaa
open Go.RowKit

/-! Slices of a call's own, one cell an element. -/
def Or {α : Type} (e : TypeId) (c : α → Value) (w : World) (base : Nat) (v : Value) (l : List α) : Prop := w.ownsRow base e 1 v l.length (l.map c)
section
variable {α : Type} {e : TypeId} {c : α → Value} {w w' : World} {base B g cap n : Nat} {v : Value} {l : List α}
theorem Or.nil (e : TypeId) (c : α → Value) (w : World) (base : Nat) : Or e c w base (.slice none 0 0) [] := World.ownsRow_nil w base e 1
theorem Or.kept {row : Option Nat} (h : Or e c w base v l) (hg : w.grownBy w' row) (hne : v.ownBlock = none ∨ v.ownBlock ≠ row) : Or e c w' base v l := World.ownsRow.kept h hg hne
theorem Or.alloc (h : Or e c w base v l) (o : Obj) : Or e c (w.alloc o) base v l := World.ownsRow.alloc h o
theorem Or.shape (h : Or e c w base v l) : ∃ ad cap, v = .slice ad l.length cap ∧ l.length ≤ cap := by
  rcases h.2 with ⟨rfl, hz⟩ | ⟨g, cap, cur, rfl, _, _, hc, _⟩
  · exact ⟨none, 0, by rw [hz], by omega⟩
  · exact ⟨_, cap, rfl, hc⟩
theorem Or.shape1 (h : Or e c w base v l) (hl : 0 < l.length) : ∃ g cap, v = .slice (some ⟨g, 0, none⟩) l.length cap ∧ l.length ≤ cap ∧ cap ≤ maxLen ∧ base ≤ g ∧ g < w.heap.size := by
  rcases h.2 with ⟨rfl, hz⟩ | ⟨g, cap, cur, rfl, hb, hh, hc, hm, _⟩
  · omega
  · exact ⟨g, cap, rfl, hc, hm, hb, (Array.getElem?_eq_some_iff.1 hh).1⟩
theorem Or.ge (h : Or e c w base v l) {k : Nat} (hk : v.ownBlock = some k) : base ≤ k ∧ k < w.heap.size := World.ownsRow.lt h k hk
theorem Or.below (h : Or e c w base v l) (hb : Below B w w') (hB : ∀ k, v.ownBlock = some k → k < B) : Or e c w' base v l := by
  refine ⟨h.1, ?_⟩
  rcases h.2 with h2 | ⟨g, cap, cur, rfl, h3, h4, h5⟩
  · exact .inl h2
  · exact .inr ⟨g, cap, cur, rfl, h3, (hb.block g (hB g rfl)).trans h4, h5⟩
theorem Or.below' (h : Or e c w base v l) (hb : Below w.heap.size w w') : Or e c w' base v l := h.below hb fun k hk => (h.ge hk).2
theorem Or.based {base' : Nat} (h : Or e c w base v l) (hb : base' ≤ base) : Or e c w base' v l := by
  refine ⟨h.1, ?_⟩
  rcases h.2 with h2 | ⟨g, cap, cur, rfl, h3, h4, h5⟩
  · exact .inl h2
  · exact .inr ⟨g, cap, cur, rfl, by omega, h4, h5⟩
theorem Or.drew (h : Or e c w base v l) : Or e c w.drew base v l := h
theorem Or.cell (h : Or e c w base (.slice (some ⟨g, 0, none⟩) l.length cap) l) (i : Nat) (hi : i < l.length) : w.cell? ⟨g, i, none⟩ = some (c l[i]) := by
  rw [World.ownsRow.cellAt h i (by omega)]
  simp [hi]
theorem Or.frozen (h : Or e c w base (.slice (some ⟨g, 0, none⟩) l.length cap) l) (i : Nat) : w.frozen? ⟨g, i, none⟩ = false := World.ownsRow.frozenAt h i
theorem Or.apart {β : Type} {e' : TypeId} {d : β → Value} {base' : Nat} {u : Value} {m : List β} (h : Or e c w base v l) (h' : Or e' d w base' u m) (he : e ≠ e') : v.ownBlock = none ∨ v.ownBlock ≠ u.ownBlock := by
  rcases h.2 with ⟨rfl, _⟩ | ⟨g, cap, cur, rfl, _, hh, _⟩
  · exact .inl rfl
  · right
    rcases h'.2 with ⟨rfl, _⟩ | ⟨g', cap', cur', rfl, _, hh', _⟩
    · simp [Value.ownBlock]
    · intro hg
      simp [Value.ownBlock] at hg
      subst hg
      rw [hh] at hh'
      simp at hh'
      exact he hh'.2
theorem Or.set (h : Or e c w base (.slice (some ⟨g, 0, none⟩) l.length cap) l) (i : Nat) (x : α) : Or e c (w.setCell ⟨g, i, none⟩ (c x)) base (.slice (some ⟨g, 0, none⟩) l.length cap) (l.set i x) := by
  rcases h.2 with ⟨h0, _⟩ | ⟨g', cap', cur, hv, hb, hh, h1, h2, h3, h4⟩
  · simp at h0
  · simp at hv
    obtain ⟨rfl, rfl⟩ := hv
    refine ⟨by simp, .inr ⟨g, cap, cur.setIfInBounds i (c x), by simp, hb, ?_, by simpa using h1, h2, by simpa using h3, ?_⟩⟩
    · simp [World.setCell, Array.getElem?_modify, hh]
    · rw [Array.toList_setIfInBounds, List.length_set, List.map_set, ← h4, List.take_set]
theorem Or.other (h : Or e c w base v l) (p : Addr) (u : Value) (hne : v.ownBlock = none ∨ v.ownBlock ≠ some p.block) : Or e c (w.setCell p u) base v l := by
  refine ⟨h.1, ?_⟩
  rcases h.2 with h2 | ⟨g, cap, cur, rfl, h3, h4, h5⟩
  · exact .inl h2
  · refine .inr ⟨g, cap, cur, rfl, h3, ?_, h5⟩
    rw [Below.heap_setCell w p u g (by rcases hne with h | h <;> simp [Value.ownBlock] at h; exact h)]
    exact h4
theorem Or.src {tx e' : TypeId} (h : Or e c w base v l) (h1 : ∀ x, (c x).oneCell' = true) (hk : Try.prog.underlying tx = some (.slice e')) : Src Try.prog 1 tx v l.length (l.map c) w := by
  have hc := h
  rcases h.2 with ⟨rfl, hz⟩ | ⟨g, cap, cur, rfl, _⟩
  · have : l = [] := List.length_eq_zero_iff.1 hz
    subst this
    exact Src.ofNil w hk 0
  · exact Src.ofSlice w hk ⟨g, 0, none⟩ l.length cap (l.map c) (by simp) (World.ownsRow.cells hc (g := g) rfl) (fun u hu => by obtain ⟨x, _, rfl⟩ := List.mem_map.1 hu; exact h1 x)
end
/-- An append to a row of one's own, behind a guard that says yes. -/
theorem wpList_append_ownG {P : Program} {w : World} {ops : Array Oper} {rest : List Oper} {o : Oper} {a : Act} {Q : Exit → Act → World → Prop} (hw : Region.wanted o (yielded ops a.tmps) = true) (s x : Operand) (t : TypeId)
    (ho : o.op = .call { callee := .builtin .append, args := #[s, x], argTypes := #[t, t] })
    (base : Nat) (e : TypeId) (i : TypeInfo) (z : Value) (size bytes : Nat) (ht : P.underlying t = some (.slice e)) (hi : P.info? e = some i) (hz : i.zero = some z)
    (hsize : i.size = size) (hby : i.bytes = bytes) (hzs : z.cells.size = size) (hsz : 0 < size)
    (v : Value) (n : Nat) (xs : List Value) (hs : a.eval s = v) (hown : w.ownsRow base e size v n xs)
    (ad : Addr) (m c : Nat) (news : List Value) (hx : a.eval x = .slice (some ad) m c) (hl : news.length = m * size) (hnews : ∀ j u, news[j]? = some u → w.cell? (ad.add j) = some u) (h1 : ∀ u ∈ news, u.oneCell' = true)
    (h63 : n + m ≤ maxLen) (hbytes : (n + m) * bytes ≤ 140737488355328) (hbase : base ≤ w.heap.size)
    (h : ∀ v' w', w'.ownsRow base e size v' (n + m) (xs ++ news) → w.grownBy w' v.ownBlock → (v' = .slice none 0 0 ↔ v = .slice none 0 0 ∧ m = 0) → wpList P ops Q rest (a.put o.dst v') w') : wpList P ops Q (o :: rest) a w :=
  BigFrame.wpList_want hw fun _ hK => wp_append_own w s x t ho base e i z size bytes ht hi hz hsize hby hzs hsz v n xs hs hown ad m c news hx hl hnews h1 h63 hbytes hbase fun v' w' h2 h3 h4 => hK _ _ (h v' w' h2 h3 h4)
/-- Of strings. -/
abbrev cS (s : ByteArray) : Value := .string s
theorem infoS : (Try.prog.info? 9).map (fun i => (i.zero, i.size, i.bytes)) = some (some (.string ⟨#[]⟩), 1, 16) := by kernel_rfl
theorem Ss.below {w w' : World} {v : Value} {g : Nat → ByteArray} {len : Nat} (h : Ss w v g len) (hb : Below w.heap.size w w') : Ss w' v g len := by
  obtain ⟨h1, h2, ad, cap, hv, h3⟩ := h
  refine ⟨h1, h2, ad, cap, hv, fun i hi => ?_⟩
  obtain ⟨b, off, ha, hc⟩ := h3 i hi
  exact ⟨b, off, ha, (hb.cell (cell_lt' hc)).trans hc⟩
theorem Or.ss {e : TypeId} {w : World} {base : Nat} {v : Value} {l : List ByteArray} (h : Or e cS w base v l) (hl : ∀ x ∈ l, x.size ≤ maxLen) : Ss w v (fun i => l.getD i ByteArray.empty) l.length := by
  rcases Nat.eq_zero_or_pos l.length with hz | hp
  · obtain ⟨ad, cap, rfl, _⟩ := h.shape
    exact ⟨by rw [hz]; simp, fun i hi => absurd hi (by omega), ad, cap, rfl, fun i hi => absurd hi (by omega)⟩
  · obtain ⟨g, cap, rfl, h1, h2, _, _⟩ := h.shape1 hp
    refine ⟨by omega, fun i hi => ?_, _, cap, rfl, fun i hi => ⟨g, 0, rfl, ?_⟩⟩
    · rw [show (fun i => l.getD i ByteArray.empty) i = l[i] by simp [hi]]
      exact hl _ (List.getElem_mem hi)
    · rw [Nat.zero_add, h.cell i hi]
      simp [hi]
end Go.Proofs.Ytjbhegakgdcldaa

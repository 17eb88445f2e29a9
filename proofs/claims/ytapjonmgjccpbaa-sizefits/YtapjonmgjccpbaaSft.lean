import Derived.Test.YtapjonmgjccpbaaSfM
import Derived.Test.YtapjonmgjccpbaaJ21
import Derived.Deep.DeepCutAuto
set_option linter.unusedSimpArgs false
set_option linter.unusedVariables false
set_option maxRecDepth 100000
namespace Go.Proofs.Ytapjonmgjccpbaa
open Go.RowKit

/-! A transaction under way: so many hashes, so many blobs. -/
def tij (b i j : Nat) : TX := ⟨7, 1099511627776, T192, T192, T192, T254, 1073741824, List.replicate i (hz b), List.replicate j (zb b)⟩
structure SJ (w W : World) (X b i j : Nat) (u v : Value) : Prop where
  bX : Bk W X (txc (tij b i j) u v) 30
  hU : Or 24 cU W w.heap.size u (List.replicate i (hz b))
  hV : Or 9 cS W w.heap.size v (List.replicate j (zb b))
  hB : Below w.heap.size w W
  hX : w.heap.size ≤ X
theorem own_not {α : Type} {e : TypeId} {c : α → Value} {w : World} {base X : Nat} {v : Value} {l : List α} {vs : Array Value} {t : TypeId} (h : Or e c w base v l) (hX : Bk w X vs t) (he : e ≠ t) : v.ownBlock ≠ some X := by
  intro hv
  rcases h.2 with ⟨rfl, _⟩ | ⟨g, cap, cur, rfl, _, hh, _⟩
  · simp [Value.ownBlock] at hv
  · simp [Value.ownBlock] at hv
    subst hv
    have hX : w.heap[g]? = some (.cells vs t) := hX
    rw [hh] at hX
    simp at hX
    exact he hX.2
theorem SJ.below {w W W' : World} {X b i j : Nat} {u v : Value} (h : SJ w W X b i j u v) (hb : Below W.heap.size W W') : SJ w W' X b i j u v :=
  ⟨h.bX.below hb h.bX.lt, h.hU.below' hb, h.hV.below' hb, h.hB.trans (hb.mono h.hB.size), h.hX⟩
theorem SJ.blob {w W W' : World} {X b i j : Nat} {u v v' : Value} (h : SJ w W X b i j u v) (hown : W'.ownsRow w.heap.size 9 1 v' (j + 1) ((List.replicate j (zb b)).map cS ++ [cS (zb b)])) (hg : W.grownBy W' v.ownBlock) :
    SJ w (W'.setCell ⟨X, 20, none⟩ v') X b i (j + 1) u v' ∧ Bk W' X (txc (tij b i j) u v) 30 := by
  have hnX := own_not h.hV h.bX (by decide)
  have hbX : Bk W' X (txc (tij b i j) u v) 30 := (hg.block X h.bX.lt (fun e => hnX e.symm)).trans h.bX
  have hO : Or 9 cS W' w.heap.size v' (List.replicate (j + 1) (zb b)) := by
    unfold Or
    rw [List.replicate_succ', List.map_append, List.length_append, List.length_replicate]
    exact hown
  have hU := h.hU.kept hg (h.hU.apart h.hV (by decide))
  have hB : Below w.heap.size w W' := h.hB.trans (grown_below hg h.hB.size fun k hk => (h.hV.ge hk).1)
  exact ⟨⟨hbX.set 20 v' rfl, hU.other ⟨X, 20, none⟩ v' (.inr (own_not hU hbX (by decide))), hO.other ⟨X, 20, none⟩ v' (.inr (own_not hO hbX (by decide))), hB.setCell (p := ⟨X, 20, none⟩) h.hX v', h.hX⟩, hbX⟩
theorem SJ.hash {w W W' : World} {X b i j : Nat} {u v u' : Value} (h : SJ w W X b i j u v) (hown : W'.ownsRow w.heap.size 24 1 u' (i + 1) ((List.replicate i (hz b)).map cU ++ [cU (hz b)])) (hg : W.grownBy W' u.ownBlock) :
    SJ w (W'.setCell ⟨X, 19, none⟩ u') X b (i + 1) j u' v ∧ Bk W' X (txc (tij b i j) u v) 30 := by
  have hnX := own_not h.hU h.bX (by decide)
  have hbX : Bk W' X (txc (tij b i j) u v) 30 := (hg.block X h.bX.lt (fun e => hnX e.symm)).trans h.bX
  have hO : Or 24 cU W' w.heap.size u' (List.replicate (i + 1) (hz b)) := by
    unfold Or
    rw [List.replicate_succ', List.map_append, List.length_append, List.length_replicate]
    exact hown
  have hV := h.hV.kept hg (h.hV.apart h.hU (by decide))
  have hB : Below w.heap.size w W' := h.hB.trans (grown_below hg h.hB.size fun k hk => (h.hU.ge hk).1)
  exact ⟨⟨hbX.set 19 u' rfl, hO.other ⟨X, 19, none⟩ u' (.inr (own_not hO hbX (by decide))), hV.other ⟨X, 19, none⟩ u' (.inr (own_not hV hbX (by decide))), hB.setCell (p := ⟨X, 19, none⟩) h.hX u', h.hX⟩, hbX⟩
theorem SJ.rt {w W : World} {X b n : Nat} {aU aV : Option Addr} {cU' cV : Nat} (h : SJ w W X b n n (.slice aU n cU') (.slice aV n cV)) (hb : b ≤ 64) :
    Bk W X (txc (tjb b n) (.slice aU (tjb b n).hs.length cU') (.slice aV (tjb b n).bs.length cV)) 30 ∧ RT W (tjb b n) (.slice aU (tjb b n).hs.length cU') (.slice aV (tjb b n).bs.length cV) := by
  obtain ⟨e1, e2⟩ := tjb_len b n
  have h1 := h.hU.su (tjb_w b n hb).hs
  have h2 := h.hV.ss (tjb_w b n hb).bs
  rw [List.length_replicate] at h1 h2
  unfold RT
  rw [e1, e2]
  exact ⟨h.bX, h1, h2⟩
section
variable {ops : Array Oper} {o : Oper} {a : Act} {w : World} {K : Act → World → Prop} {Q : Exit → Act → World → Prop} {E : Prop}
theorem step_make (n : Nat) (hn : n ≤ 100000) (hw : Region.wanted o (yielded ops a.tmps) = true) (x : Operand) (ho : o.op = .makeSlice 51 x x) (hx : a.eval x = .int .i64 (n : Int))
    (hk : ∀ W, Bk W w.heap.size (zM n) 5 → Below w.heap.size w W → W.heap.size = w.heap.size + 1 → K (a.put o.dst (.slice (some ⟨w.heap.size, 0, none⟩) n n)) W) :
    if Region.wanted o (yielded ops a.tmps) = true then Oper.wp Try.prog o a w K Q else E := by
  rw [if_pos hw]
  unfold Oper.wp
  have e : (execOp a.eval o).run Try.prog w = .ok (.value (.slice (some ⟨w.heap.size, 0, none⟩) n n)) (w.alloc (.cells (zM n) 5)) := by
    have hm := zmake n hn w
    unfold execOp
    rw [ho]
    simp only [hx]
    go_simp
  rw [e]
  exact hk _ (Bk.new _ _ _) ((Below.refl _ _).alloc (Nat.le_refl _) _) (by simp)
theorem step_conv (n g : Nat) (hw : Region.wanted o (yielded ops a.tmps) = true) (x : Operand) (ho : o.op = .convert 51 9 x) (hx : a.eval x = .slice (some ⟨g, 0, none⟩) n n) (h : Bk w g (zM n) 5)
    (hk : K (a.put o.dst (.string (zb n))) w) :
    if Region.wanted o (yielded ops a.tmps) = true then Oper.wp Try.prog o a w K Q else E := by
  rw [if_pos hw]
  unfold Oper.wp
  have e : (execOp a.eval o).run Try.prog w = .ok (.value (.string (zb n))) w := by
    have hm := zstr n w g h
    unfold execOp
    rw [ho]
    simp only [hx]
    go_simp
  rw [e]
  exact hk
end
end Go.Proofs.Ytapjonmgjccpbaa

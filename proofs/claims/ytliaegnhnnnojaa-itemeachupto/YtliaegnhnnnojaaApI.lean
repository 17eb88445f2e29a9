import Derived.Test.YtliaegnhnnnojaaBld
import Derived.Test.YtliaegnhnnnojaaWr
import Derived.Deep.RegionLaw
set_option linter.unusedSimpArgs false
set_option linter.unusedVariables false
namespace Go.Proofs.Ytliaegnhnnnojaa
open Go.RowKit

/-! An item appended to a list of items. -/
theorem step_append_src {P : Program} {ops : Array Oper} {o : Oper} {a : Act} {w : World} {K : Act → World → Prop} {Q : Exit → Act → World → Prop} {E : Prop} (hgd : o.guard = none) (s x : Operand) (t tx : TypeId)
    (ho : o.op = .call { callee := .builtin .append, args := #[s, x], argTypes := #[t, tx] })
    (base : Nat) (e : TypeId) (i : TypeInfo) (z : Value) (size bytes : Nat) (ht : P.underlying t = some (.slice e)) (hi : P.info? e = some i) (hz : i.zero = some z)
    (hsize : i.size = size) (hby : i.bytes = bytes) (hzs : z.cells.size = size)
    (v xv : Value) (n : Nat) (xs : List Value) (m : Nat) (news : List Value) (hs : a.eval s = v) (hx : a.eval x = xv) (hown : w.ownsRow base e size v n xs) (hsrc : Src P size tx xv m news w)
    (h63 : n + m ≤ maxLen) (hbytes : (n + m) * bytes ≤ 140737488355328) (hbase : base ≤ w.heap.size) (hm : 0 < m) (N : Nat) (hN : n + m = N)
    (h : ∀ g cap w', w'.ownsRow base e size (.slice (some ⟨g, 0, none⟩) N cap) N (xs ++ news) → w.grownBy w' v.ownBlock → Sn w v (.slice (some ⟨g, 0, none⟩) N cap) → g < w'.heap.size → base ≤ g → K (a.put o.dst (.slice (some ⟨g, 0, none⟩) N cap)) w') :
    if Region.wanted o (yielded ops a.tmps) = true then Oper.wp P o a w K Q else E := by
  subst hN
  rw [if_pos (by simp [Region.wanted, hgd])]
  obtain ⟨v', w', hr, h2, h3, h4⟩ := run_append_own_src (P := P) w base t tx o.type e i z size bytes ht hi hz hsize hby hzs v n xs hown xv m news hsrc h63 hbytes hbase
  unfold Oper.wp execOp
  simp only [ho, resolve, invoke, builtin, Sem.run_bind, Sem.run_pure, Result.andThen_ok, List.map_toArray, List.map_cons, List.map_nil, hs, hx, hr]
  have h2' := h2
  rcases h2.2 with ⟨rfl, hz'⟩ | ⟨g, cap, cur, rfl, hg, hh, _⟩
  · omega
  · exact h g cap w' h2' h3 h4 (Array.getElem?_eq_some_iff.1 hh).1 hg
theorem infoI : (Try.prog.info? 26).map (fun i => (i.zero, i.size, i.bytes)) = some (some (.agg #[.bool false, .string ⟨#[]⟩, .slice none 0 0]), 3, 48) := by kernel_rfl
/-- The one element that is appended, in its own block. -/
theorem one_src {w : World} {g : Nat} {x y z : Value} (hb : Bk w g #[x, y, z] 26) (h1 : x.oneCell' = true) (h2 : y.oneCell' = true) (h3 : z.oneCell' = true) : Src Try.prog 3 24 (.slice (some ⟨g, 0, none⟩) 1 1) 1 [x, y, z] w := by
  obtain ⟨c0, c1, c2⟩ := box_cells hb
  refine Src.ofSlice w Try.underlying24 ⟨g, 0, none⟩ 1 1 [x, y, z] rfl (fun j u hj => ?_) (fun u hu => ?_)
  · rw [Addr.add_lit, Nat.zero_add]
    match j with
    | 0 => simp at hj; subst hj; exact c0
    | 1 => simp at hj; subst hj; exact c1
    | 2 => simp at hj; subst hj; exact c2
    | j + 3 => simp at hj
  · simp at hu
    rcases hu with rfl | rfl | rfl <;> assumption
theorem len_wts : ∀ xs : List IT, xs.length ≤ IT.wts xs
  | [] => Nat.le_refl _
  | x :: xs => by have := len_wts xs; have : 1 ≤ x.wt := (by rw [IT.wt_eq]; omega); simp only [List.length_cons, IT.wts]; omega
end Go.Proofs.Ytliaegnhnnnojaa

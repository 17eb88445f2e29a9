import Derived.Test.YtljfenjpnanoiaaSubM
set_option linter.unusedSimpArgs false
set_option linter.unusedVariables false
namespace Go.Proofs.Ytljfenjpnanoiaa
open Go.RowKit
theorem all_range_int : ∀ (xs ys : List Int), xs.length = ys.length → ((List.range xs.length).all fun i => xs.getD i 0 == ys.getD i 0) = (xs == ys)
  | [], [], _ => rfl
  | x :: xs, y :: ys, h => by
    have ih := all_range_int xs ys (by simpa using h)
    rw [List.length_cons, List.range_succ_eq_map, List.all_cons, List.all_map]
    rw [List.cons_beq_cons, ← ih]
    rfl
  | [], _ :: _, h => by simp at h
  | _ :: _, [], h => by simp at h
theorem run_equalIn_u64s {P : Program} (w : World) (d : Nat) (t e : TypeId) (n : Nat) (ht : P.underlying t = some (.array n e)) (he : P.underlying e = some (.int .u64)) (hsz : ∀ w, (sizeOf e).run P w = .ok 1 w)
    (xs ys : List Int) (hx : xs.length = n) (hy : ys.length = n) :
    (Op.equalIn (d + 2) t (.agg (xs.map (Value.int .u64)).toArray) (.agg (ys.map (Value.int .u64)).toArray)).run P w = .ok (xs == ys) w := by
  rw [← all_range_int xs ys (hx.trans hy.symm), hx, List.range_eq_range', Op.equalIn]
  simp only [Sem.run_bind, run_underlying ht, Result.andThen_ok, hsz, Std.Legacy.Range.forIn_eq_forIn_range', Std.Legacy.Range.size, Nat.sub_zero, Nat.add_sub_cancel, Nat.div_one]
  have hl : ∀ i ∈ List.range' 0 n 1, i < n := fun i hi => by simpa using (List.mem_range'_1.1 hi).2
  generalize List.range' 0 n 1 = l at hl ⊢
  induction l with
  | nil => simp
  | cons i l ih =>
    have hi : i < n := hl i (by simp)
    have px : (part e (xs.map (Value.int .u64)).toArray (i * 1)).run P w = .ok (.int .u64 (xs.getD i 0)) w := by
      simp [part, isAgg, run_underlying he, List.getD, List.getElem?_eq_getElem (show i < xs.length by omega)]
    have py : (part e (ys.map (Value.int .u64)).toArray (i * 1)).run P w = .ok (.int .u64 (ys.getD i 0)) w := by
      simp [part, isAgg, run_underlying he, List.getD, List.getElem?_eq_getElem (show i < ys.length by omega)]
    have pe : (Op.equalIn (d + 1) e (.int .u64 (xs.getD i 0)) (.int .u64 (ys.getD i 0))).run P w = .ok (xs.getD i 0 == ys.getD i 0) w :=
      run_equalIn_int w d e .u64 .u64 _ _ he
    simp only [List.forIn_cons, Sem.run_bind, px, py, pe, Result.andThen_ok, List.all_cons]
    cases hb : (xs.getD i 0 == ys.getD i 0)
    · simp
    · simp only [Bool.not_true, Bool.false_eq_true, if_false, Sem.run_pure, Result.andThen_ok, Bool.true_and]
      exact ih fun j hj => hl j (by simp [hj])
theorem size24 (w : World) : (sizeOf 23).run Try.prog w = .ok 1 w := by kernel_rfl
def eq4 (x0 x1 x2 x3 y0 y1 y2 y3 : Int) : Bool := [x0, x1, x2, x3] == [y0, y1, y2, y3]
theorem eql26 (x0 x1 x2 x3 y0 y1 y2 y3 : Int) (w : World) : (binOp .eql 25 (.agg (A4 x0 x1 x2 x3)) (.agg (A4 y0 y1 y2 y3))).run Try.prog w = .ok (.bool (eq4 x0 x1 x2 x3 y0 y1 y2 y3)) w := by
  rw [run_eql_struct]
  have h := run_equalIn_u64s (P := Try.prog) w 9998 25 23 4 Try.underlying25 Try.underlying23 size24 [x0, x1, x2, x3] [y0, y1, y2, y3] rfl rfl
  simp only [List.map_cons, List.map_nil] at h
  rw [h]
  rfl
theorem neq26 (x0 x1 x2 x3 y0 y1 y2 y3 : Int) (w : World) : (binOp .neq 25 (.agg (A4 x0 x1 x2 x3)) (.agg (A4 y0 y1 y2 y3))).run Try.prog w = .ok (.bool (!eq4 x0 x1 x2 x3 y0 y1 y2 y3)) w := by
  rw [run_neq_struct]
  have h := run_equalIn_u64s (P := Try.prog) w 9998 25 23 4 Try.underlying25 Try.underlying23 size24 [x0, x1, x2, x3] [y0, y1, y2, y3] rfl rfl
  simp only [List.map_cons, List.map_nil] at h
  rw [h]
  rfl
theorem eq4_same (x0 x1 x2 x3 : Int) : eq4 x0 x1 x2 x3 x0 x1 x2 x3 = true := by simp [eq4]
theorem eq4_V (n m : Nat) (hn : n < M256) (hm : m < M256) : eq4 (lb n 0) (lb n 1) (lb n 2) (lb n 3) (lb m 0) (lb m 1) (lb m 2) (lb m 3) = decide (n = m) := by
  have a := lb_val n hn
  have b := lb_val m hm
  by_cases e : n = m
  · subst e; simp [eq4]
  · have : ¬ (lb n 0 = lb m 0 ∧ lb n 1 = lb m 1 ∧ lb n 2 = lb m 2 ∧ lb n 3 = lb m 3) := by
      rintro ⟨h0, h1, h2, h3⟩
      rw [h0, h1, h2, h3] at a
      omega
    simp only [eq4, e, decide_false, beq_eq_false_iff_ne, ne_eq, List.cons.injEq, and_true]; exact this
theorem eql26V (n m : Nat) (hn : n < M256) (hm : m < M256) (w : World) : (binOp .eql 25 (V n) (V m)).run Try.prog w = .ok (.bool (decide (n = m))) w := by
  rw [V, V, eql26, eq4_V n m hn hm]
theorem eql26_0 (n : Nat) (hn : n < M256) (w : World) : (binOp .eql 25 (V n) (.agg (A4 0 0 0 0))).run Try.prog w = .ok (.bool (decide (n = 0))) w := by
  rw [← V_zero, eql26V n 0 hn (by decide)]
theorem neq26V (n m : Nat) (hn : n < M256) (hm : m < M256) (w : World) : (binOp .neq 25 (V n) (V m)).run Try.prog w = .ok (.bool (!decide (n = m))) w := by
  rw [V, V, neq26, eq4_V n m hn hm]
theorem neq26_0 (n : Nat) (hn : n < M256) (w : World) : (binOp .neq 25 (V n) (.agg (A4 0 0 0 0))).run Try.prog w = .ok (.bool (!decide (n = 0))) w := by
  rw [← V_zero, neq26V n 0 hn (by decide)]
end Go.Proofs.Ytljfenjpnanoiaa

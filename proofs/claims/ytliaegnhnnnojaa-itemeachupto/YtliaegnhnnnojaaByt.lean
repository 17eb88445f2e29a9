import Derived.Test.YtliaegnhnnnojaaWr
set_option linter.unusedSimpArgs false
set_option linter.unusedVariables false
namespace Go.Proofs.Ytliaegnhnnnojaa
open Go.RowKit

/-! item.Bytes, item.Check, tarnlaw4.wakes by contract. -/
def ItOk (a : IT) : Prop := a.pd ≤ 16 ∧ a.raw.length ≤ 65536
instance (a : IT) : Decidable (ItOk a) := inferInstanceAs (Decidable (_ ∧ _))
theorem wrOk_nil (a : IT) : WrOk a 0 [] ↔ ItOk a := by simp [WrOk, ItOk]
def BytQ (a : IT) (w : World) (e : Ending) (w' : World) : Prop :=
  ((ItOk a ∧ e = .returned (.tuple #[.string ⟨a.raw.toArray⟩, .int .i64 0])) ∨ (¬ ItOk a ∧ e = .returned (.tuple #[.string ⟨#[]⟩, .int .i64 1]))) ∧ Below w.heap.size w w'
theorem write0 (n : Nat) (a : IT) (ad : Option Addr) (l c : Nat) (w : World) (o : Obj) (hr : Rd w n a.items (.slice ad l c)) (hw : a.wt ≤ 1152921504606846976) :
    Calls Try.prog 36 #[.slice none 0 0, .agg #[.bool a.list, .string a.text, .slice ad l c], .int .i64 0] (w.alloc o) fun e w' => ((ItOk a ∧ ∃ v, e = .returned (.tuple #[v, .int .i64 0]) ∧ Ow w' w.heap.size v a.raw) ∨ (¬ ItOk a ∧ e = .returned (.tuple #[.slice none 0 0, .int .i64 1]))) ∧ Below w.heap.size w w' := by
  have hp := (hr.below ((Below.refl _ w).alloc (Nat.le_refl _) o)).P
  have hz : (w.alloc o).heap.size = w.heap.size + 1 := by simp
  rw [hz] at hp
  refine (write n a ad l c (w.alloc o) 0 (.slice none 0 0) [] (w.heap.size + 1) (w.heap.size + 1) hp hw (Ow.nil _ _) (Nat.le_refl _) (by omega) (by simp) (by omega)).mono ?_
  rintro e w' ⟨h, hg⟩
  have hb : Below w.heap.size w w' := ((Below.refl _ w).alloc (Nat.le_refl _) o).trans (grown_below hg (by omega) (fun k hk => by simp [Value.ownBlock] at hk))
  refine ⟨?_, hb⟩
  rcases h with ⟨v, rfl, hO, _, hok⟩ | ⟨rfl, hno⟩
  · refine .inl ⟨(wrOk_nil a).1 hok, v, rfl, ?_⟩
    rw [List.nil_append] at hO
    rcases hO.2 with h | ⟨g, cap, cur, hv, h1, h2⟩
    · exact ⟨hO.1, .inl h⟩
    · exact ⟨hO.1, .inr ⟨g, cap, cur, hv, by omega, h2⟩⟩
  · exact .inr ⟨fun h => hno ((wrOk_nil a).2 h), rfl⟩
set_option maxRecDepth 100000 in
theorem bytes (n : Nat) (a : IT) (ad : Option Addr) (l c : Nat) (w : World) (hr : Rd w n a.items (.slice ad l c)) (hw : a.wt ≤ 1152921504606846976) :
    Calls Try.prog 19 #[.agg #[.bool a.list, .string a.text, .slice ad l c]] w (BytQ a w) := by
  have HC := fun o => write0 n a ad l c w o hr hw
  have HC' : Hid (∀ o, _) := HC
  clear HC hr
  go_enter Try.func19, Try.ntmps19
  go_wp2_with fail
  refine (HC'.out _).mono ?_
  rintro e w1 ⟨(⟨hok, v, rfl, hO⟩ | ⟨hno, rfl⟩), hb⟩
  · have hs := hO.string
    go_wp2_with fail
    go_ret2
    exact ⟨.inl ⟨hok, rfl⟩, hb⟩
  · have hs := (Ow.nil w1 0).string
    go_wp2_with fail
    go_ret2
    exact ⟨.inr ⟨hno, rfl⟩, hb⟩
def ckE (a : IT) : Int := if ItOk a then 0 else 1
theorem num4 (x : Int) (w : World) : Calls Try.prog 14 #[.int .i64 x] w fun e w' => e = .returned (.int .i64 x) ∧ w' = w := by
  go_enter Try.func14, Try.ntmps14
  go_wp2_with fail
  go_ret
  exact ⟨rfl, rfl⟩
def wkI : IT := .mk true ⟨#[]⟩ [.mk false ⟨#[97]⟩ [], .mk false ⟨#[]⟩ []]
theorem wkI_raw : wkI.raw = [194, 97, 128] := by simp [wkI, IT.raw, IT.raws, traw, bare, hd]
theorem wkI_ok : ItOk wkI := by
  refine ⟨?_, by rw [wkI_raw]; decide⟩
  have : wkI.pd = 1 := by rfl
  omega
theorem wkI_wt : wkI.wt ≤ 1152921504606846976 := by simp [wkI, IT.wt, IT.wts, ByteArray.size]
theorem wkI_rd (w : World) : Rd (w.alloc (.cells #[.bool false, .string ⟨#[97]⟩, .slice none 0 0, .bool false, .string ⟨#[]⟩, .slice none 0 0] 26)) 2 wkI.items (.slice (some ⟨w.heap.size, 0, none⟩) 2 2) := by
  have b := Bk.new w #[.bool false, .string ⟨#[97]⟩, .slice none 0 0, .bool false, .string ⟨#[]⟩, .slice none 0 0] 26
  refine ⟨by simp [wkI, IT.items], _, _, rfl, fun i hi => ⟨w.heap.size, 0, rfl, .slice none 0 0, ?_⟩⟩
  have hi' : i < 2 := hi
  have hn : Rd (w.alloc (.cells #[.bool false, .string ⟨#[97]⟩, .slice none 0 0, .bool false, .string ⟨#[]⟩, .slice none 0 0] 26)) 1 [] (.slice none 0 0) := ⟨by simp, none, 0, rfl, fun i hi => by simp at hi⟩
  match i, hi' with
  | 0, _ => exact ⟨(b.cell 0).trans rfl, (b.cell 1).trans rfl, (b.cell 2).trans rfl, ⟨_, _, _, rfl⟩, hn⟩
  | 1, _ => exact ⟨(b.cell 3).trans rfl, (b.cell 4).trans rfl, (b.cell 5).trans rfl, ⟨_, _, _, rfl⟩, hn⟩
set_option maxRecDepth 100000 in
theorem wakes (w : World) : Calls Try.prog 18 #[] w fun e w' => e = .returned (.bool true) ∧ Below w.heap.size w w' := by
  have HC := bytes 2 wkI (some ⟨w.heap.size, 0, none⟩) 2 2 _ (wkI_rd w) wkI_wt
  have HC' : Hid (Calls Try.prog 19 #[.agg #[.bool true, .string ⟨#[]⟩, .slice (some ⟨w.heap.size, 0, none⟩) 2 2]] (w.alloc (.cells #[.bool false, .string ⟨#[97]⟩, .slice none 0 0, .bool false, .string ⟨#[]⟩, .slice none 0 0] 26)) fun e w' => e = .returned (.tuple #[.string ⟨#[194, 97, 128]⟩, .int .i64 0]) ∧ Below w.heap.size w w') := by
    refine Calls.mono HC ?_
    rintro e w' ⟨(⟨_, rfl⟩ | ⟨h, _⟩), hb⟩
    · rw [wkI_raw]
      exact ⟨rfl, ((Below.refl _ w).alloc (Nat.le_refl _) _).trans (hb.mono (by simp))⟩
    · exact absurd wkI_ok h
  clear HC
  go_enter Try.func18, Try.ntmps18
  go_wp2_with (first | (go_at_call 19; refine HC'.out.mono ?_; rintro e w1 ⟨rfl, hb1⟩) | (go_at_call 14; refine (num4 _ _).mono ?_; rintro e w2 ⟨rfl, rfl⟩))
  go_ret
  exact ⟨rfl, hb1⟩
end Go.Proofs.Ytliaegnhnnnojaa

import Derived.Test.YtapjonmgjccpbaaJ2
import Derived.Test.YtapjonmgjccpbaaJ0
import Derived.Laws.OwnMore
set_option linter.unusedSimpArgs false
set_option linter.unusedVariables false
set_option maxRecDepth 100000
namespace Go.Proofs.Ytapjonmgjccpbaa
open Go.RowKit

/-! string(make([]byte, n)). -/
def zb (n : Nat) : ByteArray := ⟨Array.replicate n 0⟩
theorem zb_size (n : Nat) : (zb n).size = n := by show (Array.replicate n (0 : UInt8)).size = n; simp
def zM (n : Nat) : Array Value := madeCells #[.int .u8 0] n
theorem zM_at (n j : Nat) (h : j < n) : (zM n)[j]? = some (.int .u8 0) := by
  unfold zM
  rw [← Array.getElem?_toList, toList_madeCells_one]
  simp [h]
theorem zmake (n : Nat) (hn : n ≤ 100000) (W : World) : (Instr.makeSlice 51 (.int .i64 (n : Int)) (.int .i64 (n : Int))).run Try.prog W = .ok (.slice (some ⟨W.heap.size, 0, none⟩) n n) (W.alloc (.cells (zM n) 5)) := by
  obtain ⟨i0, hi, hz0, hz1, hz2⟩ := info_of info5
  have h := run_make (P := Try.prog) W 51 5 i0 (.int .u8 0) Try.underlying51 hi hz0 .i64 .i64 (n : Int) (n : Int) (by omega) (by omega) (by rw [hz2]; omega) (by omega)
  have e : madeCells (Value.int .u8 0).cells (((n : Nat) : Int).toNat * i0.size) = zM n := by
    rw [hz1]
    simp [zM, Value.cells]
  rw [e] at h
  simpa using h
theorem zstr (n : Nat) (W : World) (g : Nat) (h : Bk W g (zM n) 5) : (convert 51 9 (.slice (some ⟨g, 0, none⟩) n n)).run Try.prog W = .ok (.string (zb n)) W := by
  have e := run_convert_bytes_arg (P := Try.prog) W 51 5 Try.underlying51 Try.underlying5 g 0 n n ((List.replicate n (0 : UInt8)).map fun b => (b.toNat : Int)) (by simp) (fun i hi => by
      rw [Nat.zero_add, h.cell, zM_at n i hi]
      simp [hi]) 9 Try.underlying9
  rw [str_of] at e
  rw [e]
  simp [zb]
end Go.Proofs.Ytapjonmgjccpbaa

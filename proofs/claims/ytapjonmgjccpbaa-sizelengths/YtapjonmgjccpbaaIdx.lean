import Derived.Test.YtapjonmgjccpbaaBase
set_option linter.unusedSimpArgs false
set_option linter.unusedVariables false
namespace Go.Proofs.Ytapjonmgjccpbaa
open Go.RowKit

theorem idx_str (s : ByteArray) (i : Int) (j : Nat) (hj : j < s.size) (e : i = j) (w : World) : (Instr.index 9 (.string s) (.int .i64 i)).run Try.prog w = .ok (.int .u8 (s[j].toNat : Int)) w := by
  subst e
  rw [run_index_string w 9 s .i64 j Try.underlying9, dif_pos ⟨by omega, by omega⟩]
  rfl
theorem byte_lt (b : UInt8) : b.toNat < 256 := b.toNat_lt
theorem data_len (s : ByteArray) : s.data.toList.length = s.size := rfl
end Go.Proofs.Ytapjonmgjccpbaa

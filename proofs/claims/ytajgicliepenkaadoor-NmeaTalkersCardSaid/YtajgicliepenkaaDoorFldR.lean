/-
  The document's fields: read, digits, numbers, hex digits, points.
-/
import Derived.Test.YtajgicliepenkaaDoorFldM
import Derived.LoopTactic
namespace Go.Proofs.YtajgicliepenkaaDoor
open Go.RowKit
set_option linter.unusedVariables false

theorem str_at (s : ByteArray) (j : Nat) (h : j < s.size) (w : World) : Sem.run Tryd.prog (Instr.index 9 (.string s) (.int .i64 (j : Nat))) w = .ok (.int .u8 (wd (nat s) j : Nat)) w := by
  rw [run_index_string w 9 s .i64 j Tryd.underlying9, dif_pos ⟨by omega, by omega⟩]
  rw [← nat_wd s j h]
  rfl
theorem fld_ret_bool {a b : Bool} (h : a = b) : Ending.returned (.bool a) = .returned (.bool b) := by rw [h]

end Go.Proofs.YtajgicliepenkaaDoor

/-
  The document's fields: dates.
-/
import Derived.Test.YtajgicliepenkaaDoorFldU
namespace Go.Proofs.YtajgicliepenkaaDoor
open Go.RowKit
set_option linter.unusedVariables false

/-- A date, as it is told. -/
def dateVal (c : (Nat × Nat × Nat) × Nat) : Value := .tuple #[.int .i64 (c.1.1 : Nat), .int .i64 (c.1.2.1 : Nat), .int .i64 (c.1.2.2 : Nat), .int .i64 (c.2 : Nat)]

end Go.Proofs.YtajgicliepenkaaDoor

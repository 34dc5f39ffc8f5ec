/-
  The program's fields: dates; one of some bytes.
-/
import Derived.Test.YtbgepjhnnlippaaDoorFlpF
namespace Go.Proofs.YtbgepjhnnlippaaDoor
open Go.RowKit
set_option linter.unusedVariables false


end Go.Proofs.YtbgepjhnnlippaaDoor

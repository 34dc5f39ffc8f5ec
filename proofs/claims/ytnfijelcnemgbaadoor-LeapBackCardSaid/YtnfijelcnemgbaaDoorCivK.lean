/-
  The known answers of civil; the walk of the law on dates.
-/
import Derived.Test.YtnfijelcnemgbaaDoorCivR
namespace Go.Proofs.YtnfijelcnemgbaaDoor
open Go.RowKit
set_option linter.unusedVariables false


end Go.Proofs.YtnfijelcnemgbaaDoor

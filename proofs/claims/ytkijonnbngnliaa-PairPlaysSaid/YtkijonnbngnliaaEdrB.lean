/-
  Whether two lists of integers are the same, as the document asks it.
-/
import Derived.Test.YtkijonnbngnliaaEdrA
namespace Go.Proofs.Ytkijonnbngnliaa
open Go.RowKit
set_option linter.unusedVariables false

theorem same_of {xs ys : List Int} (hl : xs.length = ys.length) (h : ∀ j, j < xs.length → zi xs j = zi ys j) : xs = ys := by
  apply List.ext_getElem hl
  intro i h1 h2
  have := h i h1
  rw [zi_lt h1, zi_lt h2] at this
  exact this
-- [SAME
end Go.Proofs.Ytkijonnbngnliaa

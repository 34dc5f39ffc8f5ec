/-
  Contracts of civil: the date of a number; numbers of dates; seconds and moments.
-/
import Derived.Test.YtnfijelcnemgbaaDoorCivB
import Derived.OwnWalk
namespace Go.Proofs.YtnfijelcnemgbaaDoor
open Go.RowKit
set_option linter.unusedVariables false

theorem civ_firstDay_one (y : Int) (w : World) (hy : 1900 ≤ y ∧ y ≤ 2200) (ht : Tab w) :
    Calls Tryd.prog 34 #[.int .i64 y, .int .i64 1] w fun e w' => e = .returned (.int .i64 (base y)) ∧ Grew w w' := by
  have := civ_firstDay y 1 w hy (by omega) ht
  rw [show base y + cum y (1 - 1) = base y by simp [cum]] at this
  exact this

end Go.Proofs.YtnfijelcnemgbaaDoor

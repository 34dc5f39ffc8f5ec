/-
  The program's table of leap seconds: its dates.
-/
import Derived.Test.YtnfijelcnemgbaaDoorCivD
import Derived.Deep.WholeRow
namespace Go.Proofs.YtnfijelcnemgbaaDoor
open Go.RowKit
set_option linter.unusedVariables false

def datesList : List Int := [1980, 1, 6, 1981, 7, 1, 1982, 7, 1, 1983, 7, 1, 1985, 7, 1, 1988, 1, 1, 1990, 1, 1, 1991, 1, 1, 1992, 7, 1, 1993, 7, 1, 1994, 7, 1, 1996, 1, 1, 1997, 7, 1, 1999, 1, 1, 2006, 1, 1, 2009, 1, 1, 2012, 7, 1, 2015, 7, 1, 2017, 1, 1]
def datesCells : Array Value := (datesList.map (Value.int .i64)).toArray

set_option maxHeartbeats 1000000 in
theorem leap_begins (w : World) : Calls Tryd.prog 25 #[] w fun e w' => e = .returned (.agg datesCells) ∧ Grew w w' := by
  go_enter Tryd.func25, Tryd.ntmps25
  go_wp2_with (refine wpList_store_row rfl 48 _ _ rfl _ datesCells rfl (by kernel_rfl) _ _ (heap_alloc_new _ _) (by kernel_rfl) rfl (by kernel_rfl) ?_)
  rw [World.setRow_alloc_new]
  refine bodyPost_ret (v := .agg datesCells) ?_ rfl ⟨rfl, (Grew.refl _).alloc _⟩
  exact results_cell_row rfl _ _ w.heap.size _ _ (0, 0) _ rfl (heap_alloc_new _ _) Tryd.underlying48 rfl (by kernel_rfl)
end Go.Proofs.YtnfijelcnemgbaaDoor

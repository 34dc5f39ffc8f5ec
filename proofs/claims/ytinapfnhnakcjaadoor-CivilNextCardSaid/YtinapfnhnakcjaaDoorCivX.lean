/-
  CivilNext's walks where a second has no moment.
-/
import Derived.Test.YtinapfnhnakcjaaDoorCivW
namespace Go.Proofs.YtinapfnhnakcjaaDoor
open Go.RowKit
set_option linter.unusedVariables false

set_option maxRecDepth 1000000 in
set_option maxHeartbeats 2000000 in
theorem core_CivilNext_first (sec a b c p q r F : Int) (w : World) (ht : Tab w) (hs : -9223372036854775808 ≤ sec ∧ sec ≤ 9223372036854775806)
    (h1 : ∀ w, Tab w → Hid (Calls Tryd.prog 15 #[.int .i64 sec] w fun e w' => e = .returned (.tuple #[moment 0 0 0 0 0 0, .int .i64 9]) ∧ Grew w w'))
    (h2 : ∀ w, Tab w → Hid (Calls Tryd.prog 15 #[.int .i64 (sec + 1)] w fun e w' => e = .returned (.tuple #[moment a b c p q r, .int .i64 F]) ∧ Grew w w')) :
    Calls Tryd.prog 5 #[.int .i64 sec] w fun e w' => e = .returned (.bool true) ∧ Grew w w' := by
  go_enter Tryd.func5, Tryd.ntmps5
  go_wp2_with fail
  refine (h1 _ ht).out.mono ?_
  rintro e w1 ⟨rfl, g1⟩
  go_wp2_with fail
  obtain ⟨W, hW, g0, x⟩ := six_new w1 (.int .i64 0) (.int .i64 0) (.int .i64 0) (.int .i64 0) (.int .i64 0) (.int .i64 0) 32
  rw [hW]
  clear hW
  replace g0 := g1.trans g0
  clear g1
  refine (h2 _ (ht.grew g0)).out.mono ?_
  rintro e w2 ⟨rfl, g2⟩
  replace g0 := g0.trans g2
  replace x := x.grew g2
  clear g2
  obtain ⟨_, c0, c1, c2, c3, c4, c5⟩ := x.grew ((Grew.refl w2).alloc (.cells #[.int .i64 a, .int .i64 b, .int .i64 c, .int .i64 p, .int .i64 q, .int .i64 r] 32))
  replace g0 := Lib.hid (g0.alloc (.cells #[.int .i64 a, .int .i64 b, .int .i64 c, .int .i64 p, .int .i64 q, .int .i64 r] 32))
  go_wp2_with fail
  all_goals go_ret
  all_goals exact ⟨rfl, g0.out⟩

set_option maxRecDepth 1000000 in
set_option maxHeartbeats 2000000 in
theorem core_CivilNext_last (sec : Int) (w : World) (ht : Tab w) (hs : Hid (sec = 9223372036854775807)) :
    Calls Tryd.prog 5 #[.int .i64 sec] w fun e w' => e = .returned (.bool true) ∧ Grew w w' := by
  have h1 := fun w ht => Lib.hid (civ_Of_bad sec w (by rw [hs.out]; omega) ht (by rw [hs.out]; omega))
  have h2 : ∀ n, n = -9223372036854775808 → ∀ w ht, Hid _ := fun n hn w ht => Lib.hid (civ_Of_bad n w (by omega) ht (by omega))
  have H2 := Lib.hid h2
  clear h2
  go_enter Tryd.func5, Tryd.ntmps5
  go_wp2_with fail
  refine (h1 _ ht).out.mono ?_
  rintro e w1 ⟨rfl, g1⟩
  go_wp2_with fail
  obtain ⟨W, hW, g0, x⟩ := six_new w1 (.int .i64 0) (.int .i64 0) (.int .i64 0) (.int .i64 0) (.int .i64 0) (.int .i64 0) 32
  rw [hW]
  clear hW
  replace g0 := g1.trans g0
  clear g1
  refine (H2.out _ (by rw [hs.out]; unfold wrap64; decide) _ (ht.grew g0)).out.mono ?_
  rintro e w2 ⟨rfl, g2⟩
  replace g0 := g0.trans g2
  replace x := x.grew g2
  clear g2
  obtain ⟨_, c0, c1, c2, c3, c4, c5⟩ := x.grew ((Grew.refl w2).alloc (.cells #[.int .i64 0, .int .i64 0, .int .i64 0, .int .i64 0, .int .i64 0, .int .i64 0] 32))
  replace g0 := Lib.hid (g0.alloc (.cells #[.int .i64 0, .int .i64 0, .int .i64 0, .int .i64 0, .int .i64 0, .int .i64 0] 32))
  go_wp2_with fail
  all_goals go_ret
  all_goals exact ⟨rfl, g0.out⟩

set_option maxRecDepth 1000000 in
set_option maxHeartbeats 2000000 in
theorem core_CivilNext_second (sec a b c p q r : Int) (w : World) (ht : Tab w) (hs : -9223372036854775808 ≤ sec ∧ sec ≤ 9223372036854775806)
    (h1 : ∀ w, Tab w → Hid (Calls Tryd.prog 15 #[.int .i64 sec] w fun e w' => e = .returned (.tuple #[moment a b c p q r, .int .i64 0]) ∧ Grew w w'))
    (h2 : ∀ w, Tab w → Hid (Calls Tryd.prog 15 #[.int .i64 (sec + 1)] w fun e w' => e = .returned (.tuple #[moment 0 0 0 0 0 0, .int .i64 9]) ∧ Grew w w')) :
    Calls Tryd.prog 5 #[.int .i64 sec] w fun e w' => e = .returned (.bool true) ∧ Grew w w' := by
  go_enter Tryd.func5, Tryd.ntmps5
  go_wp2_with fail
  refine (h1 _ ht).out.mono ?_
  rintro e w1 ⟨rfl, g1⟩
  go_wp2_with fail
  obtain ⟨W, hW, g0, x⟩ := six_new w1 (.int .i64 a) (.int .i64 b) (.int .i64 c) (.int .i64 p) (.int .i64 q) (.int .i64 r) 32
  rw [hW]
  clear hW
  replace g0 := g1.trans g0
  clear g1
  refine (h2 _ (ht.grew g0)).out.mono ?_
  rintro e w2 ⟨rfl, g2⟩
  replace g0 := g0.trans g2
  clear g2 x
  obtain ⟨W2, hW2, _, x⟩ := six_new w2 (.int .i64 0) (.int .i64 0) (.int .i64 0) (.int .i64 0) (.int .i64 0) (.int .i64 0) 32
  obtain ⟨_, c0, c1, c2, c3, c4, c5⟩ := x
  rw [← hW2] at c0 c1 c2 c3 c4 c5
  clear hW2
  replace g0 := Lib.hid (g0.alloc (.cells #[.int .i64 0, .int .i64 0, .int .i64 0, .int .i64 0, .int .i64 0, .int .i64 0] 32))
  go_wp2_with fail
  all_goals go_ret
  all_goals exact ⟨rfl, g0.out⟩
end Go.Proofs.YtinapfnhnakcjaaDoor

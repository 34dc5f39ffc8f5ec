/-
  The known answers of civil; the walk of the law on dates.
-/
import Derived.Test.YtinapfnhnakcjaaDoorCivR
namespace Go.Proofs.YtinapfnhnakcjaaDoor
open Go.RowKit
set_option linter.unusedVariables false

set_option maxHeartbeats 1000000 in
theorem civ_known (w : World) (ht : Tab w) : Calls Tryd.prog 12 #[] w fun e w' => e = .returned (.bool true) ∧ Grew w w' := by
  have H1 := fun w ht => Lib.hid (civ_Day 1980 1 6 w (by omega) (by omega) (by decide +kernel) ht)
  have H2 := fun w ht => Lib.hid (civ_Second 2000 2 29 12 0 1 w (by omega) (by omega) (by decide +kernel) (by omega) (by omega) (by omega) ht)
  have H3 := fun w ht => Lib.hid (civ_Day_bad 1900 2 29 w (by omega) (by omega) (by omega) ht (by decide +kernel))
  have H4 := fun w ht => Lib.hid (civ_Length 2100 2 w (by omega) (by omega) ht)
  rw [show base 1980 + cum 1980 (1 - 1) + 6 - 1 = 29224 by decide +kernel] at H1
  rw [show (base 2000 + cum 2000 (2 - 1) + 29 - 1) * 86400 + (12 * 3600 + 0 * 60 + 1) = 3160814401 by decide +kernel] at H2
  rw [show lenOf 2100 2 = 28 by decide +kernel] at H4
  go_enter Tryd.func12, Tryd.ntmps12
  go_wp2_with fail
  refine (H1 _ (ht.grew (by repeat (first | exact Grew.refl _ | apply Grew.drew | apply Grew.alloc)))).out.mono ?_
  rintro e w1 ⟨rfl, g1⟩
  go_wp2_with fail
  refine (H2 _ (ht.grew (by repeat (first | exact g1 | apply Grew.drew | apply Grew.alloc)))).out.mono ?_
  rintro e w2 ⟨rfl, g2⟩
  go_wp2_with fail
  refine (H3 _ (ht.grew (by repeat (first | exact g1.trans g2 | apply Grew.drew | apply Grew.alloc)))).out.mono ?_
  rintro e w3 ⟨rfl, g3⟩
  go_wp2_with fail
  refine (H4 _ (ht.grew (by repeat (first | exact g1.trans (g2.trans g3) | apply Grew.drew | apply Grew.alloc)))).out.mono ?_
  rintro e w4 ⟨rfl, g4⟩
  go_wp2_with fail
  go_ret
  exact ⟨rfl, by repeat (first | exact g1.trans (g2.trans (g3.trans g4)) | apply Grew.drew | apply Grew.alloc)⟩

set_option maxHeartbeats 1000000 in
theorem walk_CivilDates (y m d : Int) (w : World) (hy : -9223372036854775808 ≤ y ∧ y ≤ 9223372036854775807) (hm : -9223372036854775808 ≤ m ∧ m ≤ 9223372036854775807) (hd : -9223372036854775808 ≤ d ∧ d ≤ 9223372036854775807) (ht : Tab w) :
    Calls Tryd.prog 3 #[.int .i64 y, .int .i64 m, .int .i64 d] w fun e w' => e = .returned (.bool true) ∧ Grew w w' := by
  have L1 := fun w => Lib.hid (civ_Leap y w hy)
  have L2 := fun w => Lib.hid (ref03_Leap y w hy)
  have N1 := fun w ht => Lib.hid (civ_Length y m w hy hm ht)
  have N2 := fun w => Lib.hid (ref03_Length y m w hy hm)
  have HK := fun w ht => Lib.hid (civ_known w ht)
  by_cases hb : d < 1 ∨ lenOf y m < d
  · have H1 := fun w ht => Lib.hid (civ_Day_bad y m d w hy hm hd ht hb)
    have H2 := fun w => Lib.hid (ref03_Day_bad y m d w hy hm hd hb)
    clear hb
    generalize lenOf y m = l at *
    generalize leapOf y = b at *
    go_enter Tryd.func3, Tryd.ntmps3
    go_wp2_with fail
    refine (H1 _ ht).out.mono ?_
    rintro e w1 ⟨rfl, g1⟩
    go_wp2_with fail
    refine (H2 _).out.mono ?_
    rintro e w2 ⟨rfl, g2⟩
    go_wp2_with fail
    refine (L1 _).out.mono ?_
    rintro e w3 ⟨rfl, g3⟩
    go_wp2_with fail
    refine (L2 _).out.mono ?_
    rintro e w4 ⟨rfl, g4⟩
    have g := g1.trans (g2.trans (g3.trans g4))
    go_wp2_with fail
    refine (N1 _ (ht.grew g)).out.mono ?_
    rintro e w5 ⟨rfl, g5⟩
    go_wp2_with fail
    refine (N2 _).out.mono ?_
    rintro e w6 ⟨rfl, g6⟩
    have g := g.trans (g5.trans g6)
    go_wp2_with fail
    refine (HK _ (ht.grew g)).out.mono ?_
    rintro e w7 ⟨rfl, g7⟩
    go_wp2_with fail
    go_ret
    exact ⟨rfl, g.trans g7⟩
  · have hym : (1900 ≤ y ∧ y ≤ 2199) ∧ 1 ≤ m ∧ m ≤ 12 := by
      apply Classical.byContradiction
      intro hc
      have : lenOf y m = 0 := by unfold lenOf; rw [if_neg hc]
      omega
    obtain ⟨k, rfl⟩ := Int.eq_ofNat_of_zero_le (show 0 ≤ m by omega)
    have H1 := fun w ht => Lib.hid (civ_Day y k d w hym.1 (by omega) (by omega) ht)
    have H2 := fun w => Lib.hid (ref03_Day y k d w hym.1 (by omega) (by omega))
    clear hb
    generalize base y + cum y (k - 1) + d - 1 = f at *
    generalize lenOf y k = l at *
    generalize leapOf y = b at *
    go_enter Tryd.func3, Tryd.ntmps3
    go_wp2_with fail
    refine (H1 _ ht).out.mono ?_
    rintro e w1 ⟨rfl, g1⟩
    go_wp2_with fail
    refine (H2 _).out.mono ?_
    rintro e w2 ⟨rfl, g2⟩
    go_wp2_with fail
    refine (L1 _).out.mono ?_
    rintro e w3 ⟨rfl, g3⟩
    go_wp2_with fail
    refine (L2 _).out.mono ?_
    rintro e w4 ⟨rfl, g4⟩
    have g := g1.trans (g2.trans (g3.trans g4))
    go_wp2_with fail
    refine (N1 _ (ht.grew g)).out.mono ?_
    rintro e w5 ⟨rfl, g5⟩
    go_wp2_with fail
    refine (N2 _).out.mono ?_
    rintro e w6 ⟨rfl, g6⟩
    have g := g.trans (g5.trans g6)
    go_wp2_with fail
    refine (HK _ (ht.grew g)).out.mono ?_
    rintro e w7 ⟨rfl, g7⟩
    go_wp2_with fail
    go_ret
    exact ⟨rfl, g.trans g7⟩
end Go.Proofs.YtinapfnhnakcjaaDoor

/-
  Contracts of the document's seconds and moments.
-/
import Derived.Test.YtnfijelcnemgbaaDoorCivK
namespace Go.Proofs.YtnfijelcnemgbaaDoor
open Go.RowKit
set_option linter.unusedVariables false

theorem ret_pair_int {k l : IntKind} {a b : Int} {v : Value} (h : a = b) : Ending.returned (.tuple #[.int k a, v]) = .returned (.tuple #[.int k b, v]) := by rw [h]

set_option maxHeartbeats 1000000 in
theorem ref03_Second (y : Int) (m : Nat) (d h i s : Int) (w : World) (hy : 1900 ≤ y ∧ y ≤ 2199) (hm : 1 ≤ m ∧ m ≤ 12) (hd : 1 ≤ d ∧ d ≤ lenOf y m) (hh : 0 ≤ h ∧ h < 24) (hi : 0 ≤ i ∧ i < 60) (hs : 0 ≤ s ∧ s < 60) :
    Calls Tryd.prog 24 #[moment y m d h i s] w fun e w' => e = .returned (.tuple #[.int .i64 ((base y + cum y (m - 1) + d - 1) * 86400 + (h * 3600 + i * 60 + s)), .bool true]) ∧ Grew w w' := by
  have H1 := fun w => Lib.hid (ref03_Day y m d w hy hm hd)
  have hl := len_le y m
  have hB := base_ge y (by omega); have hB' := base_le y (by omega); have hC := cum_le y (m - 1)
  have hf : 0 ≤ base y + cum y (m - 1) + d - 1 ∧ base y + cum y (m - 1) + d - 1 ≤ 120000 := by omega
  clear hB hB' hC
  generalize base y + cum y (m - 1) + d - 1 = f at *
  generalize lenOf y m = l at *
  go_enter Tryd.func24, Tryd.ntmps24
  go_wp2_with fail
  obtain ⟨W, hW, g0, x⟩ := six_new w (.int .i64 y) (.int .i64 m) (.int .i64 d) (.int .i64 h) (.int .i64 i) (.int .i64 s) 45
  rw [hW]
  clear hW
  refine (H1 _).out.mono ?_
  rintro e w1 ⟨rfl, g1⟩
  obtain ⟨_, _, _, _, c3, c4, c5⟩ := x.grew g1
  go_wp2_with fail
  go_ret2
  refine ⟨?_, g0.trans g1⟩
  exact ret_pair_int (k := .i64) (l := .i64) (by omega)

set_option maxHeartbeats 2000000 in
theorem ref03_Second_bad (y m d h i s : Int) (w : World) (hy : -9223372036854775808 ≤ y ∧ y ≤ 9223372036854775807) (hm : -9223372036854775808 ≤ m ∧ m ≤ 9223372036854775807) (hd : -9223372036854775808 ≤ d ∧ d ≤ 9223372036854775807)
    (hh : -9223372036854775808 ≤ h ∧ h ≤ 9223372036854775807) (hi : -9223372036854775808 ≤ i ∧ i ≤ 9223372036854775807) (hs : -9223372036854775808 ≤ s ∧ s ≤ 9223372036854775807) (hb : (d < 1 ∨ lenOf y m < d) ∨ isTm h i s = false) :
    Calls Tryd.prog 24 #[moment y m d h i s] w fun e w' => e = .returned (.tuple #[.int .i64 0, .bool false]) ∧ Grew w w' := by
  by_cases h1 : d < 1 ∨ lenOf y m < d
  · have H1 := fun w => Lib.hid (ref03_Day_bad y m d w hy hm hd h1)
    clear hb h1
    go_enter Tryd.func24, Tryd.ntmps24
    go_wp2_with fail
    obtain ⟨W, hW, g0, x⟩ := six_new w (.int .i64 y) (.int .i64 m) (.int .i64 d) (.int .i64 h) (.int .i64 i) (.int .i64 s) 45
    rw [hW]
    clear hW
    refine (H1 _).out.mono ?_
    rintro e w1 ⟨rfl, g1⟩
    obtain ⟨_, _, _, _, c3, c4, c5⟩ := x.grew g1
    go_wp2_with fail
    go_ret2
    exact ⟨rfl, g0.trans g1⟩
  · have h2 : isTm h i s = false := hb.resolve_left h1
    have hym : (1900 ≤ y ∧ y ≤ 2199) ∧ 1 ≤ m ∧ m ≤ 12 := by
      apply Classical.byContradiction
      intro hc
      have : lenOf y m = 0 := by unfold lenOf; rw [if_neg hc]
      omega
    obtain ⟨k, rfl⟩ := Int.eq_ofNat_of_zero_le (show 0 ≤ m by omega)
    have H1 := fun w => Lib.hid (ref03_Day y k d w hym.1 (by omega) (by omega))
    have ht : ¬(0 ≤ h ∧ h < 24 ∧ 0 ≤ i ∧ i < 60 ∧ 0 ≤ s ∧ s < 60) := by simpa [isTm] using h2
    have hc : h < 0 ∨ (0 ≤ h ∧ 24 ≤ h) ∨ ((0 ≤ h ∧ h < 24) ∧ i < 0) ∨ ((0 ≤ h ∧ h < 24) ∧ 0 ≤ i ∧ 60 ≤ i) ∨ ((0 ≤ h ∧ h < 24) ∧ (0 ≤ i ∧ i < 60) ∧ s < 0) ∨ ((0 ≤ h ∧ h < 24) ∧ (0 ≤ i ∧ i < 60) ∧ 0 ≤ s ∧ 60 ≤ s) := by omega
    clear hb h1 h2 ht
    generalize base y + cum y (k - 1) + d - 1 = f at *
    rcases hc with hc | hc | hc | hc | hc | hc
    all_goals
      go_enter Tryd.func24, Tryd.ntmps24
      go_wp2_with fail
      obtain ⟨W, hW, g0, x⟩ := six_new w (.int .i64 y) (.int .i64 (k : Nat)) (.int .i64 d) (.int .i64 h) (.int .i64 i) (.int .i64 s) 45
      rw [hW]
      clear hW
      refine (H1 _).out.mono ?_
      rintro e w1 ⟨rfl, g1⟩
      obtain ⟨_, _, _, _, c3, c4, c5⟩ := x.grew g1
      go_wp2_with fail
      go_ret2
      exact ⟨rfl, g0.trans g1⟩

end Go.Proofs.YtnfijelcnemgbaaDoor

/-
  Contracts of civil: numbers of dates; seconds and moments.
-/
import Derived.Test.YtnfijelcnemgbaaDoorCivC
namespace Go.Proofs.YtnfijelcnemgbaaDoor
open Go.RowKit
set_option linter.unusedVariables false

theorem civ_Day_bad (y m d : Int) (w : World) (hy : -9223372036854775808 ≤ y ∧ y ≤ 9223372036854775807) (hm : -9223372036854775808 ≤ m ∧ m ≤ 9223372036854775807) (hd : -9223372036854775808 ≤ d ∧ d ≤ 9223372036854775807) (ht : Tab w) (hb : d < 1 ∨ lenOf y m < d) :
    Calls Tryd.prog 30 #[.int .i64 y, .int .i64 m, .int .i64 d] w fun e w' => e = .returned (.tuple #[.int .i64 0, .int .i64 2]) ∧ Grew w w' := by
  have H1 := fun w ht => Lib.hid (civ_Length y m w hy hm ht)
  have hl := len_le y m
  generalize lenOf y m = l at *
  by_cases h1 : d < 1
  · go_enter Tryd.func30, Tryd.ntmps30
    go_wp2_with fail
    go_ret2
    exact ⟨rfl, Grew.refl _⟩
  · have h2 : l < d := by omega
    clear hb
    go_enter Tryd.func30, Tryd.ntmps30
    go_wp2_with fail
    refine (H1 _ ht).out.mono ?_
    rintro e w1 ⟨rfl, g1⟩
    go_wp2_with fail
    go_ret2
    exact ⟨rfl, g1⟩

theorem civ_Day (y : Int) (m : Nat) (d : Int) (w : World) (hy : 1900 ≤ y ∧ y ≤ 2199) (hm : 1 ≤ m ∧ m ≤ 12) (hd : 1 ≤ d ∧ d ≤ lenOf y m) (ht : Tab w) :
    Calls Tryd.prog 30 #[.int .i64 y, .int .i64 (m : Nat), .int .i64 d] w fun e w' => e = .returned (.tuple #[.int .i64 (base y + cum y (m - 1) + d - 1), .int .i64 0]) ∧ Grew w w' := by
  have H1 := fun w ht => Lib.hid (civ_Length y m w (by omega) (by omega) ht)
  have H2 := fun w ht => Lib.hid (civ_firstDay y m w (by omega) hm ht)
  have hl := len_le y m
  have hB := base_ge y (by omega); have hB' := base_le y (by omega); have hC := cum_le y (m - 1)
  have hf : 0 ≤ base y + cum y (m - 1) ∧ base y + cum y (m - 1) ≤ 120000 := by omega
  clear hB hB' hC
  generalize base y + cum y (m - 1) = f at *
  generalize lenOf y m = l at *
  go_enter Tryd.func30, Tryd.ntmps30
  go_wp2_with fail
  refine (H1 _ ht).out.mono ?_
  rintro e w1 ⟨rfl, g1⟩
  go_wp2_with fail
  refine (H2 _ (ht.grew g1)).out.mono ?_
  rintro e w2 ⟨rfl, g2⟩
  go_wp2_with fail
  go_ret2
  exact ⟨rfl, g1.trans g2⟩

def isTm (h m s : Int) : Bool := decide (0 ≤ h ∧ h < 24 ∧ 0 ≤ m ∧ m < 60 ∧ 0 ≤ s ∧ s < 60)
theorem civ_isTime (h m s : Int) (w : World) (hh : -9223372036854775808 ≤ h ∧ h ≤ 9223372036854775807) (hm : -9223372036854775808 ≤ m ∧ m ≤ 9223372036854775807) (hs : -9223372036854775808 ≤ s ∧ s ≤ 9223372036854775807) :
    Calls Tryd.prog 31 #[.int .i64 h, .int .i64 m, .int .i64 s] w fun e w' => e = .returned (.bool (isTm h m s)) ∧ Grew w w' := by
  go_enter Tryd.func31, Tryd.ntmps31
  go_wp2
  all_goals go_ret
  all_goals (refine ⟨ret_bool ?_, Grew.refl _⟩; rw [Bool.eq_iff_iff]; simp [isTm])
  all_goals omega

/-- A moment as a value. -/
@[reducible] def moment (y m d h i s : Int) : Value := .agg #[.int .i64 y, .int .i64 m, .int .i64 d, .int .i64 h, .int .i64 i, .int .i64 s]

/-- Six cells of a block. -/
def Six (w : World) (p : Nat) (a b c d e f : Value) : Prop := p < w.heap.size ∧ w.cell? ⟨p, 0, none⟩ = some a ∧ w.cell? ⟨p, 1, none⟩ = some b ∧ w.cell? ⟨p, 2, none⟩ = some c ∧ w.cell? ⟨p, 3, none⟩ = some d ∧ w.cell? ⟨p, 4, none⟩ = some e ∧ w.cell? ⟨p, 5, none⟩ = some f
theorem Six.grew {w w' : World} {p : Nat} {a b c d e f : Value} (h : Six w p a b c d e f) (g : Grew w w') : Six w' p a b c d e f := by
  obtain ⟨hp, h0, h1, h2, h3, h4, h5⟩ := h
  exact ⟨Nat.lt_of_lt_of_le hp g.size, (g.cell hp).trans h0, (g.cell hp).trans h1, (g.cell hp).trans h2, (g.cell hp).trans h3, (g.cell hp).trans h4, (g.cell hp).trans h5⟩
theorem six_new (w : World) (a b c d e f : Value) (E : TypeId) : ∃ W, w.alloc (.cells #[a, b, c, d, e, f] E) = W ∧ Grew w W ∧ Six W w.heap.size a b c d e f := by
  refine ⟨_, rfl, (Grew.refl _).alloc _, by simp, ?_, ?_, ?_, ?_, ?_, ?_⟩ <;> simp [go_sem]

set_option maxHeartbeats 1000000 in
theorem civ_Second (y : Int) (m : Nat) (d h i s : Int) (w : World) (hy : 1900 ≤ y ∧ y ≤ 2199) (hm : 1 ≤ m ∧ m ≤ 12) (hd : 1 ≤ d ∧ d ≤ lenOf y m) (hh : 0 ≤ h ∧ h < 24) (hi : 0 ≤ i ∧ i < 60) (hs : 0 ≤ s ∧ s < 60) (ht : Tab w) :
    Calls Tryd.prog 26 #[moment y m d h i s] w fun e w' => e = .returned (.tuple #[.int .i64 ((base y + cum y (m - 1) + d - 1) * 86400 + (h * 3600 + i * 60 + s)), .int .i64 0]) ∧ Grew w w' := by
  have H1 := fun w ht => Lib.hid (civ_Day y m d w hy hm hd ht)
  have H2 := fun w => Lib.hid (civ_isTime h i s w (by omega) (by omega) (by omega))
  rw [show isTm h i s = true by simp [isTm]; omega] at H2
  have hl := len_le y m
  have hB := base_ge y (by omega); have hB' := base_le y (by omega); have hC := cum_le y (m - 1)
  have hf : 0 ≤ base y + cum y (m - 1) + d - 1 ∧ base y + cum y (m - 1) + d - 1 ≤ 120000 := by omega
  clear hB hB' hC
  generalize base y + cum y (m - 1) + d - 1 = f at *
  generalize lenOf y m = l at *
  go_enter Tryd.func26, Tryd.ntmps26
  go_wp2_with fail
  obtain ⟨W, hW, g0, x⟩ := six_new w (.int .i64 y) (.int .i64 m) (.int .i64 d) (.int .i64 h) (.int .i64 i) (.int .i64 s) 45
  rw [hW]
  clear hW
  refine (H1 _ (ht.grew g0)).out.mono ?_
  rintro e w1 ⟨rfl, g1⟩
  obtain ⟨_, _, _, _, c3, c4, c5⟩ := x.grew g1
  go_wp2_with fail
  refine (H2 _).out.mono ?_
  rintro e w2 ⟨rfl, g2⟩
  clear c3 c4 c5
  obtain ⟨_, _, _, _, c3, c4, c5⟩ := x.grew (g1.trans g2)
  go_wp2_with fail
  go_ret2
  exact ⟨rfl, g0.trans (g1.trans g2)⟩

set_option maxHeartbeats 1000000 in
theorem civ_Second_bad (y m d h i s : Int) (w : World) (hy : -9223372036854775808 ≤ y ∧ y ≤ 9223372036854775807) (hm : -9223372036854775808 ≤ m ∧ m ≤ 9223372036854775807) (hd : -9223372036854775808 ≤ d ∧ d ≤ 9223372036854775807)
    (hh : -9223372036854775808 ≤ h ∧ h ≤ 9223372036854775807) (hi : -9223372036854775808 ≤ i ∧ i ≤ 9223372036854775807) (hs : -9223372036854775808 ≤ s ∧ s ≤ 9223372036854775807) (ht : Tab w) (hb : (d < 1 ∨ lenOf y m < d) ∨ isTm h i s = false) :
    Calls Tryd.prog 26 #[moment y m d h i s] w fun e w' => e = .returned (.tuple #[.int .i64 0, .int .i64 2]) ∧ Grew w w' := by
  by_cases h1 : d < 1 ∨ lenOf y m < d
  · have H1 := fun w ht => Lib.hid (civ_Day_bad y m d w hy hm hd ht h1)
    clear hb h1
    go_enter Tryd.func26, Tryd.ntmps26
    go_wp2_with fail
    obtain ⟨W, hW, g0, x⟩ := six_new w (.int .i64 y) (.int .i64 m) (.int .i64 d) (.int .i64 h) (.int .i64 i) (.int .i64 s) 45
    rw [hW]
    clear hW
    refine (H1 _ (ht.grew g0)).out.mono ?_
    rintro e w1 ⟨rfl, g1⟩
    obtain ⟨_, _, _, _, c3, c4, c5⟩ := x.grew g1
    go_wp2_with fail
    go_ret2
    exact ⟨rfl, g0.trans g1⟩
  · have h2 : isTm h i s = false := hb.resolve_left h1
    have hl := len_none y m
    have hym : (1900 ≤ y ∧ y ≤ 2199) ∧ 1 ≤ m ∧ m ≤ 12 := by
      apply Classical.byContradiction
      intro hc
      have : lenOf y m = 0 := by unfold lenOf; rw [if_neg hc]
      omega
    obtain ⟨k, rfl⟩ := Int.eq_ofNat_of_zero_le (show 0 ≤ m by omega)
    have H1 := fun w ht => Lib.hid (civ_Day y k d w hym.1 (by omega) (by omega) ht)
    have H2 := fun w => Lib.hid (civ_isTime h i s w (by omega) (by omega) (by omega))
    rw [h2] at H2
    clear hb h1 h2 hl
    generalize base y + cum y (k - 1) + d - 1 = f at *
    go_enter Tryd.func26, Tryd.ntmps26
    go_wp2_with fail
    obtain ⟨W, hW, g0, x⟩ := six_new w (.int .i64 y) (.int .i64 (k : Nat)) (.int .i64 d) (.int .i64 h) (.int .i64 i) (.int .i64 s) 45
    rw [hW]
    clear hW
    refine (H1 _ (ht.grew g0)).out.mono ?_
    rintro e w1 ⟨rfl, g1⟩
    obtain ⟨_, _, _, _, c3, c4, c5⟩ := x.grew g1
    go_wp2_with fail
    refine (H2 _).out.mono ?_
    rintro e w2 ⟨rfl, g2⟩
    go_wp2_with fail
    go_ret2
    exact ⟨rfl, g0.trans (g1.trans g2)⟩
end Go.Proofs.YtnfijelcnemgbaaDoor

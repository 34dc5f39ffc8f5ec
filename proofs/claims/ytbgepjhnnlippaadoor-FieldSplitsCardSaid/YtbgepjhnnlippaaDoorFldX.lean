/-
  The laws of fields: the known answers.
-/
import Derived.Test.YtbgepjhnnlippaaDoorFlpK
import Derived.Test.YtbgepjhnnlippaaDoorFlpH
namespace Go.Proofs.YtbgepjhnnlippaaDoor
open Go.RowKit
set_option linter.unusedVariables false

theorem newFour (w : World) (x0 x1 x2 x3 : Value) (E : TypeId) : ∃ W b, w.alloc (.cells #[x0, x1, x2, x3] E) = W ∧ w.heap.size = b ∧ Grew w W ∧ FourAt W b x0 x1 x2 x3 :=
  ⟨_, _, rfl, rfl, (Grew.refl w).alloc _, FourAt.new w _ _ _ _ _⟩
theorem known_a (w : World) : Calls Tryd.prog 9 #[.string ⟨#[49, 50, 46, 51, 52, 53, 54]⟩, .int .i64 2] w fun e w' => e = .returned (.tuple #[.int .i64 1234, .int .i64 0]) ∧ Grew w w' := by
  have h := fld_Fixed ⟨#[49, 50, 46, 51, 52, 53, 54]⟩ 2 w (by decide) (by omega)
  rw [show fixedOf (nat ⟨#[49, 50, 46, 51, 52, 53, 54]⟩) 2 = (1234, 0) by kernel_rfl] at h
  exact h
theorem known_b (w : World) : Calls Tryd.prog 9 #[.string ⟨#[45, 48, 46, 53]⟩, .int .i64 1] w fun e w' => e = .returned (.tuple #[.int .i64 (-5), .int .i64 0]) ∧ Grew w w' := by
  have h := fld_Fixed ⟨#[45, 48, 46, 53]⟩ 1 w (by decide) (by omega)
  rw [show fixedOf (nat ⟨#[45, 48, 46, 53]⟩) 1 = (-5, 0) by kernel_rfl] at h
  exact h
theorem known_c (w : World) : Calls Tryd.prog 10 #[.string ⟨#[49, 50, 51, 53, 49, 57, 46, 48, 48]⟩] w fun e w' => e = .returned (.tuple #[.agg #[.int .i64 12, .int .i64 35, .int .i64 19, .bool true], .int .i64 0]) ∧ Grew w w' := by
  have h := fld_Clock ⟨#[49, 50, 51, 53, 49, 57, 46, 48, 48]⟩ w (by decide)
  rw [show clockOf (nat ⟨#[49, 50, 51, 53, 49, 57, 46, 48, 48]⟩) = ((12, 35, 19, true), 0) by kernel_rfl] at h
  exact h
theorem known_h (w : World) : Calls Tryd.prog 11 #[.string ⟨#[49, 48, 48]⟩, .int .i64 0, .int .i64 99] w fun e w' => e = .returned (.tuple #[.int .i64 0, .int .i64 9]) ∧ Grew w w' := by
  have h := fld_Int ⟨#[49, 48, 48]⟩ 0 99 w (by decide) (by omega) (by omega)
  rw [show intAns (nat ⟨#[49, 48, 48]⟩) 0 99 = (0, 9) by kernel_rfl] at h
  exact h
theorem known_i (w : World) : Calls Tryd.prog 12 #[.string ⟨#[49, 70]⟩] w fun e w' => e = .returned (.tuple #[.int .i64 31, .int .i64 0]) ∧ Grew w w' := by
  have h := fld_Hex ⟨#[49, 70]⟩ w (by decide)
  rw [show hexOf (nat ⟨#[49, 70]⟩) = (31, 0) by kernel_rfl] at h
  exact h
theorem known_j (w : World) : Calls Tryd.prog 12 #[.string ⟨#[49, 102]⟩] w fun e w' => e = .returned (.tuple #[.int .i64 0, .int .i64 5]) ∧ Grew w w' := by
  have h := fld_Hex ⟨#[49, 102]⟩ w (by decide)
  rw [show hexOf (nat ⟨#[49, 102]⟩) = (0, 5) by kernel_rfl] at h
  exact h
set_option maxRecDepth 100000 in
set_option maxHeartbeats 2000000 in
theorem known_true (w : World) : Calls Tryd.prog 4 #[] w fun e w' => e = .returned (.bool true) ∧ Grew w w' := by
  have HA := fun w => Lib.hid (known_a w)
  have HB := fun w => Lib.hid (known_b w)
  have HC := fun w => Lib.hid (known_c w)
  have HH := fun w => Lib.hid (known_h w)
  have HI := fun w => Lib.hid (known_i w)
  have HJ := fun w => Lib.hid (known_j w)
  have G := Lib.hid (Grew.refl w)
  go_enter Tryd.func4, Tryd.ntmps4
  go_upto_region 4 with (first | (go_at_call 9; (first | (with_reducible refine (HA _).out.mono ?_) | (with_reducible refine (HB _).out.mono ?_)); rintro e w1 ⟨rfl, g1⟩; replace G := Lib.hid (G.out.trans g1); clear g1) | (go_at_call 10; refine (HC _).out.mono ?_; rintro e w1 ⟨rfl, g1⟩; replace G := Lib.hid (G.out.trans g1); clear g1))
  obtain ⟨W, b, hW, hb, gW, hD⟩ := newFour w1 (.int .i64 12) (.int .i64 35) (.int .i64 19) (.bool true) 32
  rw [hW, hb]
  replace G := Lib.hid (G.out.trans gW)
  have HD := Lib.hid hD
  clear hW hb gW hD HA HB HC
  go_upto_region 7 with (first | (go_at_call 11; refine (HH _).out.mono ?_; rintro e w2 ⟨rfl, g1⟩; replace G := Lib.hid (G.out.trans g1); replace HD := Lib.hid (HD.out.grew g1); clear g1) | (go_at_call 12; (first | (with_reducible refine (HI _).out.mono ?_) | (with_reducible refine (HJ _).out.mono ?_)); rintro e w2 ⟨rfl, g1⟩; replace G := Lib.hid (G.out.trans g1); replace HD := Lib.hid (HD.out.grew g1); clear g1))
  obtain ⟨c, c0, c1, c2, c3, c4, c5, c6, c7⟩ := HD.out
  go_wp2_with fail
  go_ret
  exact ⟨rfl, G.out⟩
end Go.Proofs.YtbgepjhnnlippaaDoor

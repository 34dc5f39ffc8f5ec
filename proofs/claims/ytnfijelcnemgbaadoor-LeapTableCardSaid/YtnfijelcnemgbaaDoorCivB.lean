/-
  Contracts of civil: the first day of a month.
-/
import Derived.Test.YtnfijelcnemgbaaDoorCivM
import Derived.LoopTactic
namespace Go.Proofs.YtnfijelcnemgbaaDoor
open Go.RowKit
set_option linter.unusedVariables false

set_option maxHeartbeats 1000000 in
theorem civ_firstDay (y : Int) (m : Nat) (w : World) (hy : 1900 ≤ y ∧ y ≤ 2200) (hm : 1 ≤ m ∧ m ≤ 12) (ht : Tab w) :
    Calls Tryd.prog 34 #[.int .i64 y, .int .i64 (m : Nat)] w fun e w' => e = .returned (.int .i64 (base y + cum y (m - 1))) ∧ Grew w w' := by
  have HB : Hid (365 * (y - 1900) + ((y - 1) / 4 - (y - 1) / 100 + (y - 1) / 400) - 460 = base y) := rfl
  have hb := base_ge y (by omega)
  have hb' := base_le y (by omega)
  have hlp : 0 ≤ ((y - 1) / 4 - (y - 1) / 100 + (y - 1) / 400) ∧ ((y - 1) / 4 - (y - 1) / 100 + (y - 1) / 400) ≤ 2000 := by omega
  have H1 := fun w => Lib.hid (civ_leapsTill (y - 1) w (by omega))
  have H2 := fun w => Lib.hid (civ_leapsTill 1899 w (by omega))
  rw [show (1899 : Int) / 4 - 1899 / 100 + 1899 / 400 = 460 from rfl] at H2
  generalize ((y - 1) / 4 - (y - 1) / 100 + (y - 1) / 400) = lp at H1 HB hlp
  go_enter Tryd.func34, Tryd.ntmps34
  go_wp2_with fail
  refine (H1 _).out.mono ?_
  rintro e w1 ⟨rfl, g1⟩
  go_wp2_with fail
  refine (H2 _).out.mono ?_
  rintro e w2 ⟨rfl, g2⟩
  have G0 := Lib.hid (g1.trans g2)
  clear H1 H2
  go_wp2_with fail
  rw [HB.out]
  go_loopw [5, 6] (fun d i wr => ∃ (j : Nat) (c : Int), j + 1 ≤ m ∧ i = .int .i64 ((j : Int) + 1) ∧ d = .int .i64 (base y + c) ∧ Hid (cum y j = c) ∧ Grew w wr) (fun _ i _ => m - (intOf i).toNat)
  case atStart => exact ⟨0, 0, by omega, rfl, by simp, Lib.hid rfl, G0.out⟩
  case round =>
    obtain ⟨j, c, hj, rfl, rfl, hc, hg⟩ := hrel
    have hcb : 0 ≤ c ∧ c ≤ 31 * j := by have := cum_le y j; rw [hc.out] at this; exact this
    have hlb := len_le y (j + 1)
    have hl := fun w ht => Lib.hid (civ_Length y (j + 1) w (by omega) (by omega) ht)
    obtain ⟨l, HL⟩ : ∃ l, Hid (lenOf y (j + 1) = l) := ⟨_, Lib.hid rfl⟩
    rw [HL.out] at hlb hl
    have hs : Hid (cum y (j + 1) = c + l) := by show _ = _; rw [cum_step, hc.out, HL.out]
    go_wp2_with (go_at_call 33; refine (hl _ (ht.grew hg)).out.mono ?_; rintro e w3 ⟨rfl, g3⟩)
    · go_roundw
      case rel => exact ⟨j + 1, c + l, by omega, by simp, by simp [Int.add_assoc], hs, hg.trans g3⟩
      case measure => simp [intOf]; omega
    · go_ret
      refine ⟨ret_int ?_, hg⟩
      obtain rfl : m = j + 1 := by omega
      rw [← hc.out]; simp
end Go.Proofs.YtnfijelcnemgbaaDoor

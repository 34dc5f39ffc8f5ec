/-
  Contracts of package sat: shifts and bounds; the known answers.
-/
import Derived.Test.YtngkbheahepkpaaSatA
namespace Go.Proofs.Ytngkbheahepkpaa
open Go.RowKit
set_option linter.unusedVariables false

/-- A number within two bounds, the least one asked first. -/
def clampOf (a l m : Int) : Int := if a < l then l else if m < a then m else a

theorem pow_le_of (n : Nat) (h : n < 63) : (1 : Int) ≤ 2 ^ n ∧ (2 : Int) ^ n ≤ 4611686018427387904 := by
  have h1 : (2 : Nat) ^ n ≤ 2 ^ 62 := Nat.pow_le_pow_right (by omega) (by omega)
  have h2 : 0 < (2 : Nat) ^ n := Nat.two_pow_pos n
  have e : ((2 ^ n : Nat) : Int) = (2 : Int) ^ n := by simp
  omega
theorem pow_ge_of (n : Nat) (h : 63 ≤ n) : (9223372036854775808 : Int) ≤ 2 ^ n := by
  have h1 : (2 : Nat) ^ 63 ≤ 2 ^ n := Nat.pow_le_pow_right (by omega) h
  have e : ((2 ^ n : Nat) : Int) = (2 : Int) ^ n := by simp
  omega

set_option maxHeartbeats 400000 in
theorem sat_Left (a n : Int) (w : World) (ha : -9223372036854775808 ≤ a ∧ a ≤ 9223372036854775807) (hn : 0 ≤ n ∧ n ≤ 18446744073709551615) :
    Calls Try.prog 24 #[.int .i64 a, .int .u64 n] w fun e w' => e = .returned (.int .i64 (held (a * 2 ^ n.toNat))) ∧ Grew w w' := by
  by_cases h63 : n < 63
  · have hp := pow_le_of n.toNat (by omega)
    obtain ⟨p, hP⟩ : ∃ p : Int, 2 ^ n.toNat = p := ⟨_, rfl⟩
    rw [hP] at hp ⊢
    have hw : wrap64 p = p := IntWalk.wrap64_in _ (by omega)
    go_enter Try.func24, Try.ntmps24
    go_wp2_with (go_at_call 13; refine (sat_Mul a p _ ha (by omega)).mono ?_; rintro e w' ⟨rfl, hg⟩)
    go_ret
    exact ⟨rfl, hg⟩
  · have hp := pow_ge_of n.toNat (by omega)
    obtain ⟨p, hP⟩ : ∃ p : Int, 2 ^ n.toNat = p := ⟨_, rfl⟩
    rw [hP] at hp ⊢
    clear hP
    have h1 : 0 < a → 9223372036854775808 ≤ a * p := fun h => by
      have := Int.mul_le_mul (show 1 ≤ a by omega) hp (by omega) (by omega)
      omega
    have h2 : a < 0 → a * p ≤ -9223372036854775808 := fun h => by
      have := Int.mul_le_mul (show 1 ≤ -a by omega) hp (by omega) (by omega)
      rw [Int.neg_mul] at this
      omega
    have H1 := Lib.hid h1; have H2 := Lib.hid h2
    clear h1 h2
    rcases Int.lt_trichotomy a 0 with h | h | h
    · go_enter Try.func24, Try.ntmps24
      go_wp2
      go_ret
      exact ⟨ret_int (by have := H2.out h; rw [held_lo _ (by omega)]), Grew.refl _⟩
    · subst h
      go_enter Try.func24, Try.ntmps24
      go_wp2
      go_ret
      exact ⟨ret_int (by rw [held_in _ (by omega) (by omega)]), Grew.refl _⟩
    · go_enter Try.func24, Try.ntmps24
      go_wp2
      go_ret
      exact ⟨ret_int (by have := H1.out h; rw [held_hi _ (by omega)]), Grew.refl _⟩

theorem div_big (a p : Int) (ha : -9223372036854775808 ≤ a ∧ a ≤ 9223372036854775807) (hp : 9223372036854775808 ≤ p) : a / p = if a < 0 then -1 else 0 := by
  split
  · have e : a = (a + p) + p * (-1) := by omega
    rw [e, Int.add_mul_ediv_left _ _ (by omega), Int.ediv_eq_zero_of_lt (by omega) (by omega)]; omega
  · exact Int.ediv_eq_zero_of_lt (by omega) (by omega)
theorem shr_min (a : Int) (n : Nat) (ha : -9223372036854775808 ≤ a ∧ a ≤ 9223372036854775807) : a / 2 ^ min n 64 = a / 2 ^ n := by
  by_cases h : n ≤ 64
  · rw [Nat.min_eq_left h]
  · rw [Nat.min_eq_right (by omega), div_big a _ ha (pow_ge_of n (by omega)), div_big a _ ha (by decide)]

theorem sat_Right (a n : Int) (w : World) (ha : -9223372036854775808 ≤ a ∧ a ≤ 9223372036854775807) (hn : 0 ≤ n ∧ n ≤ 18446744073709551615) :
    Calls Try.prog 25 #[.int .i64 a, .int .u64 n] w fun e w' => e = .returned (.int .i64 (a / 2 ^ n.toNat)) ∧ w = w' := by
  go_enter Try.func25, Try.ntmps25
  go_wp2
  go_ret
  exact ⟨ret_int (shr_min a _ ha), rfl⟩

theorem sat_Clamp (a l m : Int) (w : World) (ha : -9223372036854775808 ≤ a ∧ a ≤ 9223372036854775807) (hl : -9223372036854775808 ≤ l ∧ l ≤ 9223372036854775807) (hm : -9223372036854775808 ≤ m ∧ m ≤ 9223372036854775807) :
    Calls Try.prog 26 #[.int .i64 a, .int .i64 l, .int .i64 m] w fun e w' => e = .returned (.int .i64 (clampOf a l m)) ∧ w = w' := by
  rcases (show a < l ∨ (l ≤ a ∧ m < a) ∨ (l ≤ a ∧ a ≤ m) by omega) with h | ⟨h, h'⟩ | ⟨h, h'⟩
  all_goals
    go_enter Try.func26, Try.ntmps26
    go_wp2
    go_ret
    exact ⟨ret_int (by unfold clampOf; split <;> (try split) <;> omega), rfl⟩

set_option maxHeartbeats 1000000 in
theorem known_true (w : World) : Calls Try.prog 18 #[] w fun e w' => e = .returned (.bool true) ∧ Grew w w' := by
  have c1 : held (9223372036854775807 + 1) = 9223372036854775807 := by decide +kernel
  have c1' : held 9223372036854775808 = 9223372036854775807 := by decide +kernel
  have c2 : downOf (-7) 1 2 = -4 := by decide +kernel
  have c3 : upOf (-7) 1 2 = -3 := by decide +kernel
  have c4 : downOf 4611686018427387904 6 3 = 9223372036854775807 := by decide +kernel
  have c5 : held (-1 * 2 ^ (70 : Int).toNat) = -9223372036854775808 := by decide +kernel
  have c6 : (-1 : Int) / 2 ^ (70 : Int).toNat = -1 := by decide +kernel
  have c7 : held (- -9223372036854775808) = 9223372036854775807 := by decide +kernel
  have H2 := fun w => Lib.hid (sat_Down (-7) 1 2 w (by omega) (by omega) (by omega))
  have H3 := fun w => Lib.hid (sat_Up (-7) 1 2 w (by omega) (by omega) (by omega))
  have H4 := fun w => Lib.hid (sat_Down 4611686018427387904 6 3 w (by omega) (by omega) (by omega))
  have H5 := fun w => Lib.hid (sat_Left (-1) 70 w (by omega) (by omega))
  have H6 := fun w => Lib.hid (sat_Right (-1) 70 w (by omega) (by omega))
  have H7 := fun w => Lib.hid (sat_Neg (-9223372036854775808) w (by omega))
  have H1 := fun w => Lib.hid (sat_Add 9223372036854775807 1 w (by omega) (by omega))
  rw [c2] at H2; rw [c3] at H3; rw [c4] at H4; rw [c5] at H5; rw [c6] at H6; rw [c7] at H7; rw [c1] at H1
  clear c1 c1' c2 c3 c4 c5 c6 c7
  have G := Grew.refl w
  go_enter Try.func18, Try.ntmps18
  go_wp2_with fail
  refine (H1 _).out.mono ?_
  rintro e w' ⟨rfl, rfl⟩
  go_wp2_with fail
  refine (H2 _).out.mono ?_
  rintro e w2 ⟨rfl, g2⟩
  go_wp2_with fail
  refine (H3 _).out.mono ?_
  rintro e w3 ⟨rfl, g3⟩
  go_wp2_with fail
  refine (H4 _).out.mono ?_
  rintro e w4 ⟨rfl, g4⟩
  go_wp2_with fail
  refine (H5 _).out.mono ?_
  rintro e w5 ⟨rfl, g5⟩
  go_wp2_with fail
  refine (H6 _).out.mono ?_
  rintro e w6 ⟨rfl, rfl⟩
  go_wp2_with fail
  refine (H7 _).out.mono ?_
  rintro e w7 ⟨rfl, rfl⟩
  go_wp2
  go_ret
  exact ⟨rfl, g2.trans (g3.trans (g4.trans g5))⟩
end Go.Proofs.Ytngkbheahepkpaa

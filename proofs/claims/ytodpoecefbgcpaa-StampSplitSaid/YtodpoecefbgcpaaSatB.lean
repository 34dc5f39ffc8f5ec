/-
  Contracts of package sat: shifts and bounds; the known answers.
-/
import Derived.Test.YtodpoecefbgcpaaSatA
namespace Go.Proofs.Ytodpoecefbgcpaa
open Go.RowKit
set_option linter.unusedVariables false

/-- A number within two bounds, the least one asked first. -/
def clampOf (a l m : Int) : Int := if a < l then l else if m < a then m else a

theorem pow_le_of (n : Nat) (h : n < 63) : (1 : Int) ≤ 2 ^ n ∧ (2 : Int) ^ n ≤ 4611686018427387904 := by
  have h1 : (2 : Nat) ^ n ≤ 2 ^ 62 := Nat.pow_le_pow_right (by omega) (by omega)
  have h2 : 0 < (2 : Nat) ^ n := Nat.two_pow_pos n
  have e : ((2 ^ n : Nat) : Int) = (2 : Int) ^ n := by simp
  omega
theorem pow_ge_of (n : Nat) (h : 63 ≤ n) : (9223372036854775808 : Int) ≤ 2 ^ n := by
  have h1 : (2 : Nat) ^ 63 ≤ 2 ^ n := Nat.pow_le_pow_right (by omega) h
  have e : ((2 ^ n : Nat) : Int) = (2 : Int) ^ n := by simp
  omega


theorem div_big (a p : Int) (ha : -9223372036854775808 ≤ a ∧ a ≤ 9223372036854775807) (hp : 9223372036854775808 ≤ p) : a / p = if a < 0 then -1 else 0 := by
  split
  · have e : a = (a + p) + p * (-1) := by omega
    rw [e, Int.add_mul_ediv_left _ _ (by omega), Int.ediv_eq_zero_of_lt (by omega) (by omega)]; omega
  · exact Int.ediv_eq_zero_of_lt (by omega) (by omega)
theorem shr_min (a : Int) (n : Nat) (ha : -9223372036854775808 ≤ a ∧ a ≤ 9223372036854775807) : a / 2 ^ min n 64 = a / 2 ^ n := by
  by_cases h : n ≤ 64
  · rw [Nat.min_eq_left h]
  · rw [Nat.min_eq_right (by omega), div_big a _ ha (pow_ge_of n (by omega)), div_big a _ ha (by decide)]

theorem sat_Right (a n : Int) (w : World) (ha : -9223372036854775808 ≤ a ∧ a ≤ 9223372036854775807) (hn : 0 ≤ n ∧ n ≤ 18446744073709551615) :
    Calls Try.prog 23 #[.int .i64 a, .int .u64 n] w fun e w' => e = .returned (.int .i64 (a / 2 ^ n.toNat)) ∧ w = w' := by
  go_enter Try.func23, Try.ntmps23
  go_wp2
  go_ret
  exact ⟨ret_int (shr_min a _ ha), rfl⟩

theorem sat_Clamp (a l m : Int) (w : World) (ha : -9223372036854775808 ≤ a ∧ a ≤ 9223372036854775807) (hl : -9223372036854775808 ≤ l ∧ l ≤ 9223372036854775807) (hm : -9223372036854775808 ≤ m ∧ m ≤ 9223372036854775807) :
    Calls Try.prog 25 #[.int .i64 a, .int .i64 l, .int .i64 m] w fun e w' => e = .returned (.int .i64 (clampOf a l m)) ∧ w = w' := by
  rcases (show a < l ∨ (l ≤ a ∧ m < a) ∨ (l ≤ a ∧ a ≤ m) by omega) with h | ⟨h, h'⟩ | ⟨h, h'⟩
  all_goals
    go_enter Try.func25, Try.ntmps25
    go_wp2
    go_ret
    exact ⟨ret_int (by unfold clampOf; split <;> (try split) <;> omega), rfl⟩

end Go.Proofs.Ytodpoecefbgcpaa

/-
  The document's nearest second: plain numbers. Nothing of the program.
-/
import Derived.Test.YtodpoecefbgcpaaRefM
namespace Go.Proofs.Ytodpoecefbgcpaa
open Go.RowKit
set_option linter.unusedVariables false

/-- One round: the best one till now, and whether there is one. -/
def nearStep (low pv k : Int) (s : Int × Bool) : Int × Bool :=
  if k * 4294967296 + low < -9223372036854775808 ∨ 9223372036854775807 < k * 4294967296 + low then s
  else if s.2 = false ∨ (k * 4294967296 + low - pv).natAbs < (s.1 - pv).natAbs then (k * 4294967296 + low, true) else s
def nearTill (low pv : Int) : Nat → Int × Bool
  | 0 => (0, false)
  | j + 1 => nearStep low pv (pv / 4294967296 - 1 + j) (nearTill low pv j)

theorem near_last (low pv : Int) (hl : 0 ≤ low ∧ low ≤ 4294967295) (hp : -9223372036854775808 ≤ pv ∧ pv ≤ 9223372036854775807) :
    (nearTill low pv 3).1 = nearOf low pv ∧ -9223372036854775808 ≤ nearOf low pv ∧ nearOf low pv ≤ 9223372036854775807 := by
  obtain ⟨e, he⟩ : ∃ e, pv / 4294967296 = e := ⟨_, rfl⟩
  obtain ⟨r, hr⟩ : ∃ r, pv - e * 4294967296 = r := ⟨_, rfl⟩
  have hr0 : 0 ≤ r ∧ r < 4294967296 := by omega
  have hs : stepOf low pv = (low - r + 2147483648) % 4294967296 - 2147483648 := by
    unfold stepOf; omega
  show (nearStep low pv (pv / 4294967296 - 1 + (2 : Nat)) (nearStep low pv (pv / 4294967296 - 1 + (1 : Nat)) (nearStep low pv (pv / 4294967296 - 1 + (0 : Nat)) (0, false)))).1 = nearOf low pv ∧ _
  rw [he]
  unfold nearOf
  rw [hs]
  obtain ⟨s, hs'⟩ : ∃ s, (low - r + 2147483648) % 4294967296 - 2147483648 = s := ⟨_, rfl⟩
  have hs3 : s = low - r ∨ s = low - r + 4294967296 ∨ s = low - r - 4294967296 := by omega
  have hs4 : -2147483648 ≤ s ∧ s < 2147483648 := by omega
  rw [hs']
  clear hs hs' he
  obtain rfl : pv = e * 4294967296 + r := by omega
  clear hr
  have a0 : (e - 1 + ((0 : Nat) : Int)) * 4294967296 + low = e * 4294967296 - 4294967296 + low := by omega
  have a1 : (e - 1 + ((1 : Nat) : Int)) * 4294967296 + low = e * 4294967296 + low := by omega
  have a2 : (e - 1 + ((2 : Nat) : Int)) * 4294967296 + low = e * 4294967296 + 4294967296 + low := by omega
  unfold nearStep
  rw [a0, a1, a2]
  generalize e * 4294967296 = m at *
  constructor
  · by_cases b0 : m - 4294967296 + low < -9223372036854775808 ∨ 9223372036854775807 < m - 4294967296 + low <;>
    by_cases b1 : m + low < -9223372036854775808 ∨ 9223372036854775807 < m + low <;>
    by_cases b2 : m + 4294967296 + low < -9223372036854775808 ∨ 9223372036854775807 < m + 4294967296 + low <;>
    simp only [b0, b1, b2, if_true, if_false, true_or] <;>
    (repeat' split) <;> simp_all <;> omega
  · (repeat' split) <;> omega
end Go.Proofs.Ytodpoecefbgcpaa

/-
  Plain numbers of dates: the first day of a year and of a month. Nothing of the program.
-/
import Derived.Test.YtnfijelcnemgbaaDoorCivA
namespace Go.Proofs.YtnfijelcnemgbaaDoor
open Go.RowKit
set_option linter.unusedVariables false

/-- The days of a year's first k months. -/
def cum (y : Int) : Nat → Int
  | 0 => 0
  | k + 1 => cum y k + lenOf y (k + 1)
/-- The number of a year's first day. -/
def base (y : Int) : Int := 365 * (y - 1900) + ((y - 1) / 4 - (y - 1) / 100 + (y - 1) / 400) - 460

theorem len_le (y m : Int) : 0 ≤ lenOf y m ∧ lenOf y m ≤ 31 := by
  unfold lenOf lenTab; (repeat' split) <;> omega
theorem len_ge (y m : Int) (hy : 1900 ≤ y ∧ y ≤ 2199) (hm : 1 ≤ m ∧ m ≤ 12) : 28 ≤ lenOf y m := by
  unfold lenOf lenTab; rw [if_pos ⟨hy, hm⟩]; (repeat' split) <;> omega
theorem cum_step (y : Int) (k : Nat) : cum y (k + 1) = cum y k + lenOf y (k + 1) := rfl
theorem cum_le (y : Int) (k : Nat) : 0 ≤ cum y k ∧ cum y k ≤ 31 * k := by
  induction k with
  | zero => simp [cum]
  | succ k ih => have := len_le y (k + 1); unfold cum; omega
theorem cum_mono (y : Int) {j k : Nat} (h : j ≤ k) : cum y j ≤ cum y k := by
  induction k with
  | zero => obtain rfl : j = 0 := by omega
            exact Int.le_refl _
  | succ k ih =>
    by_cases e : j = k + 1
    · subst e; exact Int.le_refl _
    · have := ih (by omega); have := len_le y (k + 1); rw [cum_step]; omega
theorem cum_year (y : Int) (hy : 1900 ≤ y ∧ y ≤ 2199) : cum y 12 = if leapOf y = true then 366 else 365 := by
  have e : ∀ m : Int, 1 ≤ m → m ≤ 12 → lenOf y m = if m = 2 ∧ leapOf y = true then 29 else lenTab m := fun m h1 h2 => by
    unfold lenOf; rw [if_pos ⟨hy, h1, h2⟩]
  show 0 + lenOf y 1 + lenOf y 2 + lenOf y 3 + lenOf y 4 + lenOf y 5 + lenOf y 6 + lenOf y 7 + lenOf y 8 + lenOf y 9 + lenOf y 10 + lenOf y 11 + lenOf y 12 = _
  rw [e 1 (by decide) (by decide), e 2 (by decide) (by decide), e 3 (by decide) (by decide), e 4 (by decide) (by decide), e 5 (by decide) (by decide), e 6 (by decide) (by decide), e 7 (by decide) (by decide), e 8 (by decide) (by decide), e 9 (by decide) (by decide), e 10 (by decide) (by decide), e 11 (by decide) (by decide), e 12 (by decide) (by decide)]
  by_cases h : leapOf y = true <;> simp [h, lenTab]
theorem base_next (y : Int) (hy : 1900 ≤ y ∧ y ≤ 2199) : base (y + 1) = base y + cum y 12 := by
  rw [cum_year y hy]
  have hl : leapOf y = true ↔ y % 4 = 0 ∧ (y % 100 ≠ 0 ∨ y % 400 = 0) := by simp [leapOf, hy]
  unfold base
  split
  · rename_i h; have := hl.1 h; omega
  · rename_i h; have : ¬(y % 4 = 0 ∧ (y % 100 ≠ 0 ∨ y % 400 = 0)) := fun k => h (hl.2 k)
    omega
theorem base_mono {y z : Int} (h : y ≤ z) : base y ≤ base z := by
  by_cases e : y = z
  · subst e; exact Int.le_refl _
  · unfold base; omega
theorem base_1900 : base 1900 = 0 := by decide
theorem base_2200 : base 2200 = 109573 := by decide
theorem base_le (y : Int) (h : 1900 ≤ y) : base y ≤ 366 * (y - 1900) := by unfold base; omega
theorem base_ge (y : Int) (h : 1900 ≤ y) : 0 ≤ base y := by unfold base; omega

/-- A number's month: the first day is not behind it, the next month's is. -/
structure InMonth (n y : Int) (m : Nat) : Prop where
  hy : 1900 ≤ y ∧ y ≤ 2199
  hm : 1 ≤ m ∧ m ≤ 12
  lo : base y + cum y (m - 1) ≤ n
  hi : n < base y + cum y m

theorem InMonth.not_year {n y z : Int} {m k : Nat} (a : InMonth n y m) (b : InMonth n z k) (h : y < z) : False := by
  have h1 := cum_mono y a.hm.2
  have h2 := base_next y a.hy
  have h3 := base_mono (y := y + 1) (z := z) (by omega)
  have h4 := (cum_le z (k - 1)).1
  have := a.hi; have := b.lo; omega
theorem InMonth.not_month {n y : Int} {m k : Nat} (a : InMonth n y m) (b : InMonth n y k) (h : m < k) : False := by
  have h1 := cum_mono y (j := m) (k := k - 1) (by omega)
  have := a.hi; have := b.lo; omega
theorem InMonth.unique {n y z : Int} {m k : Nat} (a : InMonth n y m) (b : InMonth n z k) : y = z ∧ m = k := by
  have e : y = z := by
    rcases Int.lt_trichotomy y z with h | h | h
    · exact (a.not_year b h).elim
    · exact h
    · exact (b.not_year a h).elim
  subst e
  refine ⟨rfl, ?_⟩
  rcases Nat.lt_trichotomy m k with h | h | h
  · exact (a.not_month b h).elim
  · exact h
  · exact (b.not_month a h).elim
theorem InMonth.range {n y : Int} {m : Nat} (a : InMonth n y m) : 0 ≤ n ∧ n < 109573 := by
  have h1 := base_ge y a.hy.1; have h2 := (cum_le y (m - 1)).1; have h3 := cum_mono y a.hm.2
  have h4 := base_next y a.hy; have h5 := base_mono (y := y + 1) (z := 2200) (by have := a.hy; omega)
  rw [base_2200] at h5
  have := a.lo; have := a.hi; omega
theorem InMonth.len {n y : Int} {m : Nat} (a : InMonth n y m) : n < base y + cum y (m - 1) + lenOf y m := by
  obtain ⟨k, rfl⟩ : ∃ k, m = k + 1 := ⟨m - 1, by have := a.hm; omega⟩
  have h := a.hi; rw [cum_step] at h
  simpa [Int.add_assoc] using h
end Go.Proofs.YtnfijelcnemgbaaDoor

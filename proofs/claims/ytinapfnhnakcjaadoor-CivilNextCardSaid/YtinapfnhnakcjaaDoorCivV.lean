/-
  Plain numbers of the next second: below one place all falls back, that place rises by one, above it all stays. Nothing of the program's calls.
-/
import Derived.Test.YtinapfnhnakcjaaDoorCivU
namespace Go.Proofs.YtinapfnhnakcjaaDoor
open Go.RowKit
set_option linter.unusedVariables false

def pick6 (a b c d e f : Int) : Nat → Int
  | 0 => a | 1 => b | 2 => c | 3 => d | 4 => e | _ => f

structure Steps (x y l h : Nat → Int) (J : Nat) : Prop where
  hJ : J ≤ 5
  up : ∀ j, J < j → j ≤ 5 → x j = h j ∧ y j = l j
  stop : J = 0 ∨ x J ≠ h J
  low : ∀ k, k < J → x k = y k
  nxt : y J = x J + 1

@[reducible] def partsOf (sec y : Int) (m : Nat) : Nat → Int := pick6 y m (sec / 86400 - (base y + cum y (m - 1)) + 1) (sec % 86400 / 3600) (sec % 86400 % 3600 / 60) (sec % 86400 % 60)
@[reducible] def lows : Nat → Int := pick6 1900 1 1 0 0 0
@[reducible] def highs (l : Int) : Nat → Int := pick6 2199 12 l 23 59 59

theorem next_steps (sec y : Int) (m : Nat) (hs : 0 ≤ sec ∧ sec + 1 < 9467107200) (hin : InMonth (sec / 86400) y m) :
    ∃ (y' : Int) (m' J : Nat), InMonth ((sec + 1) / 86400) y' m' ∧ Steps (partsOf sec y m) (partsOf (sec + 1) y' m') lows (highs (lenOf y m)) J := by
  by_cases h1 : sec % 86400 < 86399
  · have e1 : (sec + 1) / 86400 = sec / 86400 := by omega
    have e2 : (sec + 1) % 86400 = sec % 86400 + 1 := by omega
    obtain ⟨r, hr⟩ : ∃ r, sec % 86400 = r := ⟨_, rfl⟩
    rw [hr] at h1 e2
    by_cases h2 : r % 60 < 59
    · refine ⟨y, m, 5, by rw [e1]; exact hin, by omega, fun j a b => by omega, .inr ?_, fun k hk => ?_, ?_⟩
      · simp only [partsOf, highs, pick6, hr]; omega
      · have : k = 0 ∨ k = 1 ∨ k = 2 ∨ k = 3 ∨ k = 4 := by omega
        rcases this with rfl | rfl | rfl | rfl | rfl <;> simp only [partsOf, pick6, e1, e2, hr] <;> omega
      · simp only [partsOf, pick6, e2, hr]; omega
    · by_cases h3 : r % 3600 / 60 < 59
      · refine ⟨y, m, 4, by rw [e1]; exact hin, by omega, fun j a b => ?_, .inr ?_, fun k hk => ?_, ?_⟩
        · have : j = 5 := by omega
          subst this; simp only [partsOf, lows, highs, pick6, e2, hr]; omega
        · simp only [partsOf, highs, pick6, hr]; omega
        · have : k = 0 ∨ k = 1 ∨ k = 2 ∨ k = 3 := by omega
          rcases this with rfl | rfl | rfl | rfl <;> simp only [partsOf, pick6, e1, e2, hr] <;> omega
        · simp only [partsOf, pick6, e2, hr]; omega
      · refine ⟨y, m, 3, by rw [e1]; exact hin, by omega, fun j a b => ?_, .inr ?_, fun k hk => ?_, ?_⟩
        · have : j = 4 ∨ j = 5 := by omega
          rcases this with rfl | rfl <;> simp only [partsOf, lows, highs, pick6, e2, hr] <;> omega
        · simp only [partsOf, highs, pick6, hr]; omega
        · have : k = 0 ∨ k = 1 ∨ k = 2 := by omega
          rcases this with rfl | rfl | rfl <;> simp only [partsOf, pick6, e1]
        · simp only [partsOf, pick6, e2, hr]; omega
  · have e1 : (sec + 1) / 86400 = sec / 86400 + 1 := by omega
    have e2 : (sec + 1) % 86400 = 0 := by omega
    have e3 : sec % 86400 = 86399 := by omega
    have hn : sec / 86400 + 1 < 109573 := by omega
    have hl := hin.len
    have hlo := hin.lo
    have hhi := hin.hi
    obtain ⟨n, hn'⟩ : ∃ n, sec / 86400 = n := ⟨_, rfl⟩
    rw [hn'] at hn hl hlo hhi e1
    clear hs h1
    by_cases h2 : n + 1 < base y + cum y (m - 1) + lenOf y m
    · have hm := hin.hm
      have hc : cum y m = cum y (m - 1) + lenOf y m := by
        obtain ⟨k, rfl⟩ : ∃ k, m = k + 1 := ⟨m - 1, by omega⟩
        rw [cum_step]; simp
      refine ⟨y, m, 2, by rw [e1]; exact ⟨hin.hy, hin.hm, by omega, by omega⟩, by omega, fun j a b => ?_, .inr ?_, fun k hk => ?_, ?_⟩
      · have : j = 3 ∨ j = 4 ∨ j = 5 := by omega
        rcases this with rfl | rfl | rfl <;> simp only [partsOf, lows, highs, pick6, e2, e3] <;> omega
      · simp only [partsOf, highs, pick6]; omega
      · have : k = 0 ∨ k = 1 := by omega
        rcases this with rfl | rfl <;> simp only [partsOf, pick6]
      · simp only [partsOf, pick6, e1]; omega
    · have hm := hin.hm
      have hc : cum y m = cum y (m - 1) + lenOf y m := by
        obtain ⟨k, rfl⟩ : ∃ k, m = k + 1 := ⟨m - 1, by omega⟩
        rw [cum_step]; simp
      by_cases h3 : m < 12
      · have hg := len_ge y (m + 1) hin.hy (by omega)
        refine ⟨y, m + 1, 1, by rw [e1]; exact ⟨hin.hy, by omega, by simp only [Nat.add_sub_cancel]; omega, by rw [cum_step]; omega⟩, by omega, fun j a b => ?_, .inr ?_, fun k hk => ?_, ?_⟩
        · have : j = 2 ∨ j = 3 ∨ j = 4 ∨ j = 5 := by omega
          rcases this with rfl | rfl | rfl | rfl <;> simp only [partsOf, lows, highs, pick6, e1, e2, e3, Nat.add_sub_cancel] <;> omega
        · simp only [partsOf, highs, pick6]; omega
        · have : k = 0 := by omega
          subst this; simp only [partsOf, pick6]
        · simp only [partsOf, pick6]; omega
      · obtain rfl : m = 12 := by omega
        have hy := hin.hy
        have hb := base_next y hin.hy
        have hy1 : y + 1 ≤ 2199 := by
          apply Classical.byContradiction
          intro hc
          have : y = 2199 := by omega
          subst this
          have := base_2200
          rw [show (2199 : Int) + 1 = 2200 from rfl] at hb
          omega
        have hg := len_ge (y + 1) 1 (by omega) (by omega)
        have c0 : cum (y + 1) 0 = 0 := rfl
        have c1 : cum (y + 1) 1 = 0 + lenOf (y + 1) 1 := rfl
        refine ⟨y + 1, 1, 0, by rw [e1]; exact ⟨by omega, by omega, by rw [c0]; omega, by rw [c1]; omega⟩, by omega, fun j a b => ?_, .inl rfl, fun k hk => by omega, ?_⟩
        · have : j = 1 ∨ j = 2 ∨ j = 3 ∨ j = 4 ∨ j = 5 := by omega
          rcases this with rfl | rfl | rfl | rfl | rfl <;> simp only [partsOf, lows, highs, pick6, e1, e2, e3, Nat.sub_self, c0] <;> omega
        · simp only [partsOf, pick6]

theorem pick6_cell {w : World} {p : Nat} {a b c d e f : Int} (h : Six w p (.int .i64 a) (.int .i64 b) (.int .i64 c) (.int .i64 d) (.int .i64 e) (.int .i64 f)) (j : Nat) (hj : j ≤ 5) : w.cell? ⟨p, j, none⟩ = some (.int .i64 (pick6 a b c d e f j)) := by
  obtain ⟨_, c0, c1, c2, c3, c4, c5⟩ := h
  have : j = 0 ∨ j = 1 ∨ j = 2 ∨ j = 3 ∨ j = 4 ∨ j = 5 := by omega
  rcases this with rfl | rfl | rfl | rfl | rfl | rfl <;> assumption
end Go.Proofs.YtinapfnhnakcjaaDoor

/-
  Every number of a day lies in one month; both moments of a second are the same one.
-/
import Derived.Test.YtlcmjedbdopglaaGreatDoorCivT
namespace Go.Proofs.YtlcmjedbdopglaaGreatDoor
open Go.RowKit
set_option linter.unusedVariables false

theorem find_step (f : Nat → Int) (n : Int) (h0 : f 0 ≤ n) : ∀ k, n < f k → ∃ j, j < k ∧ f j ≤ n ∧ n < f (j + 1)
  | 0, h => by omega
  | k + 1, h => by
    by_cases hk : n < f k
    · obtain ⟨j, h1, h2, h3⟩ := find_step f n h0 k hk
      exact ⟨j, by omega, h2, h3⟩
    · exact ⟨k, by omega, by omega, h⟩
theorem exists_month (n : Int) (h : 0 ≤ n ∧ n < 109573) : ∃ (y : Int) (m : Nat), InMonth n y m := by
  obtain ⟨j, hj, h1, h2⟩ := find_step (fun k => base (1900 + k)) n (by show base (1900 + 0) ≤ n; rw [Int.add_zero, base_1900]; exact h.1) 300 (by show n < base 2200; rw [base_2200]; exact h.2)
  have hy : 1900 ≤ (1900 + j : Int) ∧ (1900 + j : Int) ≤ 2199 := by omega
  have hn := base_next (1900 + j) hy
  simp only [Int.natCast_add, Int.cast_ofNat_Int] at h2
  rw [show (1900 + ((j : Int) + 1)) = 1900 + (j : Int) + 1 by omega, hn] at h2
  obtain ⟨k, hk, h3, h4⟩ := find_step (fun k => base (1900 + j) + cum (1900 + j) k) n (by simpa [cum] using h1) 12 h2
  exact ⟨1900 + j, k + 1, hy, by omega, by simpa using h3, h4⟩

/-- The moment of a second whose day is in that month. -/
@[reducible] def momentOf (sec y : Int) (m : Nat) : Value := moment y m (sec / 86400 - (base y + cum y (m - 1)) + 1) (sec % 86400 / 3600) (sec % 86400 % 3600 / 60) (sec % 86400 % 60)

theorem civ_Of_at (sec y : Int) (m : Nat) (w : World) (hin : InMonth (sec / 86400) y m) (ht : Tab w) :
    Calls Tryz.prog 9 #[.int .i64 sec] w fun e w' => e = .returned (.tuple #[momentOf sec y m, .int .i64 0]) ∧ Grew w w' := by
  have hr := hin.range
  refine (civ_Of sec w (by omega) ht).mono ?_
  rintro e w' ⟨y', m', hin', rfl, hg⟩
  obtain ⟨rfl, rfl⟩ := hin.unique hin'
  exact ⟨rfl, hg⟩
theorem ref03_Of_at (sec y : Int) (m : Nat) (w : World) (hin : InMonth (sec / 86400) y m) :
    Calls Tryz.prog 5 #[.int .i64 sec] w fun e w' => e = .returned (.tuple #[momentOf sec y m, .bool true]) ∧ Grew w w' := by
  have hr := hin.range
  have e1 : sec / 3600 % 24 = sec % 86400 / 3600 := by omega
  have e2 : sec / 60 % 60 = sec % 86400 % 3600 / 60 := by omega
  have e3 : sec % 60 = sec % 86400 % 60 := by omega
  refine (ref03_Of sec w (by omega)).mono ?_
  rw [e1, e2, e3]
  rintro e w' ⟨⟨y', m', hin', rfl⟩ | ⟨hge, rfl⟩, hg⟩
  · obtain ⟨rfl, rfl⟩ := hin.unique hin'
    exact ⟨rfl, hg⟩
  · omega
theorem ref03_Of_bad (sec : Int) (w : World) (hs : -9223372036854775808 ≤ sec ∧ sec ≤ 9223372036854775807) (hb : sec < 0 ∨ 9467107200 ≤ sec) :
    Calls Tryz.prog 5 #[.int .i64 sec] w fun e w' => e = .returned (.tuple #[moment 0 0 0 0 0 0, .bool false]) ∧ Grew w w' := by
  by_cases h : sec < 0 ∨ 20000000000 ≤ sec
  · exact ref03_Of_none sec w hs h
  · refine (ref03_Of sec w (by omega)).mono ?_
    rintro e w' ⟨⟨y', m', hin', rfl⟩ | ⟨hge, rfl⟩, hg⟩
    · have := hin'.range; omega
    · exact ⟨rfl, hg⟩

end Go.Proofs.YtlcmjedbdopglaaGreatDoor

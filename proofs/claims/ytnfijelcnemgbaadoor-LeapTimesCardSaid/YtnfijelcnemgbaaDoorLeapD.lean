/-
  Plain numbers: a GPS second, its UTC second, and back; the next one. Nothing of the program.
-/
import Derived.Test.YtnfijelcnemgbaaDoorLeapC
namespace Go.Proofs.YtnfijelcnemgbaaDoor
open Go.RowKit
set_option linter.unusedVariables false

theorem utc_next (g : Int) (hg : 0 ≤ g) : utcOf (g + 1) = if leapOfG g = true then utcOf g else utcOf g + 1 := by
  obtain ⟨i, h1, gl⟩ := off_line g hg
  unfold utcOf
  rw [h1]
  by_cases hl : leapOfG g = true
  · rw [if_pos hl]
    obtain ⟨k, k1, k2, k3⟩ := (leapOfG_iff g).1 hl
    have la := (leap_at k ⟨k1, k2⟩).1
    rw [k3] at la
    have := la.unique gl
    have gk : GLine (g + 1) k := ⟨k2, by omega, fun j hj hkj => by
      have := (lines_apart ⟨k, by omega⟩ ⟨j, by omega⟩ (by simp only; omega)).1; simp only at this; omega⟩
    rw [gk.off]; omega
  · rw [if_neg hl]
    have gk : GLine (g + 1) i := ⟨gl.1, by have := gl.2.1; omega, fun j hj hij => by
      have h2 := gl.2.2 j hj hij
      by_cases e : g + 1 = lineG j
      · exact absurd ((leapOfG_iff g).2 ⟨j, by omega, hj, by omega⟩) hl
      · omega⟩
    rw [gk.off]; omega
theorem utc_line (g : Int) (hg : 0 ≤ g) : ∃ i, ULine (utcOf g) i ∧ (leapOfG g = true → 1 ≤ i ∧ utcOf g = lineU i ∧ g = utcOf g - 2524953600 + i - 1) ∧ (leapOfG g = false → g = utcOf g - 2524953600 + i) := by
  obtain ⟨i, h1, gl⟩ := off_line g hg
  have e : ∀ k, lineG k = lineU k - 2524953600 + k := fun k => rfl
  unfold utcOf
  rw [h1]
  by_cases hl : leapOfG g = true
  · obtain ⟨k, k1, k2, k3⟩ := (leapOfG_iff g).1 hl
    have la := (leap_at k ⟨k1, k2⟩).1
    rw [k3] at la
    have ek := la.unique gl
    rw [e k] at k3
    refine ⟨k, ⟨k2, by omega, fun j hj hkj => ?_⟩, fun _ => ⟨k1, by omega, by omega⟩, fun h => by rw [hl] at h; cases h⟩
    have := (lines_apart ⟨k, by omega⟩ ⟨j, by omega⟩ (by simp only; omega)).2; simp only at this; omega
  · refine ⟨i, ⟨gl.1, by have := gl.2.1; rw [e i] at this; omega, fun j hj hij => ?_⟩, fun h => absurd h hl, fun _ => by omega⟩
    have h2 := gl.2.2 j hj hij
    rw [e j] at h2
    by_cases ej : g + 1 = lineG j
    · exact absurd ((leapOfG_iff g).2 ⟨j, by omega, hj, by omega⟩) hl
    · rw [e j] at ej
      by_cases e1 : j = i + 1
      · omega
      · have h3 := gl.2.2 (i + 1) (by omega) (by omega)
        rw [e (i + 1)] at h3
        have := (lines_apart ⟨i + 1, by omega⟩ ⟨j, by omega⟩ (by simp only; omega)).2; simp only at this; omega
theorem utc_range (g : Int) (hg : 0 ≤ g ∧ g ≤ 6000000000) : 2524953600 ≤ utcOf g ∧ utcOf g ≤ 9000000000 := by
  obtain ⟨i, hu, _⟩ := utc_line g hg.1
  have ho := offTill_le g 19 (by omega)
  rw [show offTill g 19 = offOf g from rfl] at ho
  refine ⟨?_, by unfold utcOf; omega⟩
  have := hu.2.1
  by_cases hi : i = 0
  · subst hi; rw [lineU_0] at this; exact this
  · have h2 := (lines_apart ⟨0, by omega⟩ ⟨i, by have := hu.1; omega⟩ (by simp only; omega)).2
    simp only [lineU_0] at h2; omega
theorem gps_back (g : Int) (hg : 0 ≤ g ∧ g ≤ 6000000000) (hn : leapOfG g = true → g + 1 ≤ 6000000000) : gpsOf (utcOf g) (leapOfG g) = (g, 0) := by
  obtain ⟨i, hu, h1, h2⟩ := utc_line g hg.1
  rw [gps_form _ _ i hu (utc_range g hg).2]
  cases hl : leapOfG g
  · have := h2 hl
    rw [if_neg (by omega), if_pos rfl, ← this]
  · obtain ⟨k1, k2, k3⟩ := h1 hl
    have := hn hl
    rw [if_neg (by omega), if_neg (by simp), if_pos ⟨k1, k2⟩, ← k3]
end Go.Proofs.YtnfijelcnemgbaaDoor

/-
  Contracts of civil: years, leap years, lengths of months.
-/
import Derived.Test.YtnfijelcnemgbaaDoorGrew
namespace Go.Proofs.YtnfijelcnemgbaaDoor
open Go.RowKit
set_option linter.unusedVariables false

/-- 1900 to 2199. -/
def isYr (y : Int) : Bool := decide (1900 ≤ y ∧ y ≤ 2199)
def leapOf (y : Int) : Bool := decide ((1900 ≤ y ∧ y ≤ 2199) ∧ y % 4 = 0 ∧ (y % 100 ≠ 0 ∨ y % 400 = 0))
def lenTab (m : Int) : Int := if m = 2 then 28 else if m = 4 ∨ m = 6 ∨ m = 9 ∨ m = 11 then 30 else 31
def lenOf (y m : Int) : Int := if (1900 ≤ y ∧ y ≤ 2199) ∧ 1 ≤ m ∧ m ≤ 12 then (if m = 2 ∧ leapOf y = true then 29 else lenTab m) else 0

/-- The table of lengths lies in the program's one variable. -/
def Tab (w : World) : Prop := 0 < w.heap.size ∧ ∀ i : Nat, i < 12 → w.cell? ⟨0, i, none⟩ = some (.int .i64 (lenTab (i + 1)))
theorem Tab.grew {w w' : World} (h : Tab w) (g : Grew w w') : Tab w' :=
  ⟨Nat.lt_of_lt_of_le h.1 g.size, fun i hi => (g.cell (by exact h.1)).trans (h.2 i hi)⟩

theorem ret_bool {a b : Bool} (h : a = b) : Ending.returned (.bool a) = .returned (.bool b) := by rw [h]

theorem civ_isYear (y : Int) (w : World) (hy : -9223372036854775808 ≤ y ∧ y ≤ 9223372036854775807) :
    Calls Tryd.prog 36 #[.int .i64 y] w fun e w' => e = .returned (.bool (isYr y)) ∧ Grew w w' := by
  go_enter Tryd.func36, Tryd.ntmps36
  go_wp2
  all_goals go_ret
  all_goals (refine ⟨ret_bool ?_, Grew.refl _⟩; rw [Bool.eq_iff_iff]; simp [isYr])
  all_goals omega

theorem civ_Leap (y : Int) (w : World) (hy : -9223372036854775808 ≤ y ∧ y ≤ 9223372036854775807) :
    Calls Tryd.prog 37 #[.int .i64 y] w fun e w' => e = .returned (.bool (leapOf y)) ∧ Grew w w' := by
  have t4 : 0 ≤ y → y.tmod 4 = y % 4 := fun h => Int.tmod_eq_emod_of_nonneg h
  have t1 : 0 ≤ y → y.tmod 100 = y % 100 := fun h => Int.tmod_eq_emod_of_nonneg h
  have t2 : 0 ≤ y → y.tmod 400 = y % 400 := fun h => Int.tmod_eq_emod_of_nonneg h
  have hi : isYr y = true ↔ 1900 ≤ y ∧ y ≤ 2199 := by simp [isYr]
  have T4 := Lib.hid t4; have T1 := Lib.hid t1; have T2 := Lib.hid t2; have HI := Lib.hid hi
  clear t4 t1 t2 hi
  go_enter Tryd.func37, Tryd.ntmps37
  go_wp2_with (go_at_call 36; refine (civ_isYear _ _ hy).mono ?_; rintro e w' ⟨rfl, hg⟩)
  all_goals go_ret
  all_goals (refine ⟨ret_bool ?_, hg⟩; have t4 := T4.out; have t1 := T1.out; have t2 := T2.out; have hi := HI.out; rw [Bool.eq_iff_iff]; simp [leapOf])
  all_goals simp_all
  all_goals omega

theorem len_tab (y m : Int) (hy : isYr y = true) (hm : 1 ≤ m ∧ m ≤ 12) (h2 : ¬(m = 2 ∧ leapOf y = true)) : lenOf y m = lenTab m := by
  have hy : 1900 ≤ y ∧ y ≤ 2199 := by simpa [isYr] using hy
  unfold lenOf; rw [if_pos ⟨hy, hm⟩, if_neg h2]
theorem len_feb (y m : Int) (hy : isYr y = true) (hm : m = 2) (h2 : leapOf y = true) : lenOf y m = 29 := by
  have hy : 1900 ≤ y ∧ y ≤ 2199 := by simpa [isYr] using hy
  unfold lenOf; rw [if_pos ⟨hy, by omega⟩, if_pos ⟨hm, h2⟩]
theorem len_none (y m : Int) (h : ¬isYr y = true ∨ m < 1 ∨ 12 < m) : lenOf y m = 0 := by
  have hy : isYr y = true ↔ 1900 ≤ y ∧ y ≤ 2199 := by simp [isYr]
  unfold lenOf; rw [if_neg]; intro hh; rcases h with h | h | h
  · exact h (hy.2 hh.1)
  · omega
  · omega

theorem civ_Length_none (y m : Int) (w : World) (hy : -9223372036854775808 ≤ y ∧ y ≤ 9223372036854775807) (hm : -9223372036854775808 ≤ m ∧ m ≤ 9223372036854775807) (h : isYr y = false ∨ (isYr y = true ∧ (m < 1 ∨ 12 < m))) :
    Calls Tryd.prog 33 #[.int .i64 y, .int .i64 m] w fun e w' => e = .returned (.int .i64 0) ∧ Grew w w' := by
  have H1 := fun w => Lib.hid (civ_isYear y w hy)
  rcases h with h | ⟨h, h' | h'⟩
  all_goals rw [h] at H1
  all_goals
    go_enter Tryd.func33, Tryd.ntmps33
    go_wp2_with fail
    refine (H1 _).out.mono ?_
    rintro e w1 ⟨rfl, g1⟩
    go_wp2
    all_goals go_ret
    all_goals exact ⟨rfl, g1⟩

theorem civ_Length_feb (y : Int) (w : World) (hy : isYr y = true) (h2 : leapOf y = true) :
    Calls Tryd.prog 33 #[.int .i64 y, .int .i64 2] w fun e w' => e = .returned (.int .i64 29) ∧ Grew w w' := by
  have hy' : 1900 ≤ y ∧ y ≤ 2199 := by simpa [isYr] using hy
  have H1 := fun w => Lib.hid (civ_isYear y w (by omega))
  have H2 := fun w => Lib.hid (civ_Leap y w (by omega))
  rw [hy] at H1; rw [h2] at H2
  go_enter Tryd.func33, Tryd.ntmps33
  go_wp2_with fail
  refine (H1 _).out.mono ?_
  rintro e w1 ⟨rfl, g1⟩
  go_wp2_with fail
  refine (H2 _).out.mono ?_
  rintro e w2 ⟨rfl, g2⟩
  go_wp2
  all_goals go_ret
  all_goals exact ⟨rfl, g1.trans g2⟩

theorem civ_Length_tab (y m : Int) (w : World) (ht : Tab w) (hy : isYr y = true) (hm : 1 ≤ m ∧ m ≤ 12) (h2 : m = 2 → leapOf y = false) :
    Calls Tryd.prog 33 #[.int .i64 y, .int .i64 m] w fun e w' => e = .returned (.int .i64 (lenTab m)) ∧ Grew w w' := by
  have hy' : 1900 ≤ y ∧ y ≤ 2199 := by simpa [isYr] using hy
  have H1 := fun w => Lib.hid (civ_isYear y w (by omega))
  have H2 := fun w => Lib.hid (civ_Leap y w (by omega))
  have hcell : ∀ w', Grew w w' → w'.cell? ⟨0, (m - 1).toNat, none⟩ = some (.int .i64 (lenTab m)) := fun w' g => by
    have := (ht.grew g).2 (m - 1).toNat (by omega)
    rw [this, show (((m - 1).toNat : Int) + 1) = m by omega]
  have HC := Lib.hid hcell
  clear hcell
  rw [hy] at H1
  by_cases hm2 : m = 2
  · subst hm2
    rw [h2 rfl] at H2
    go_enter Tryd.func33, Tryd.ntmps33
    go_wp2_with fail
    refine (H1 _).out.mono ?_
    rintro e w1 ⟨rfl, g1⟩
    go_wp2_with fail
    refine (H2 _).out.mono ?_
    rintro e w2 ⟨rfl, g2⟩
    have hc : w2.cell? ⟨0, 1, none⟩ = some (.int .i64 (lenTab 2)) := HC.out w2 (g1.trans g2)
    go_wp2
    all_goals go_ret
    all_goals exact ⟨rfl, g1.trans g2⟩
  · go_enter Tryd.func33, Tryd.ntmps33
    go_wp2_with fail
    refine (H1 _).out.mono ?_
    rintro e w1 ⟨rfl, g1⟩
    have hc := HC.out w1 g1
    rw [show (m - 1).toNat = m.toNat - 1 by omega] at hc
    go_wp2
    all_goals go_ret
    all_goals exact ⟨rfl, g1⟩

theorem civ_Length (y m : Int) (w : World) (hy : -9223372036854775808 ≤ y ∧ y ≤ 9223372036854775807) (hm : -9223372036854775808 ≤ m ∧ m ≤ 9223372036854775807) (ht : Tab w) :
    Calls Tryd.prog 33 #[.int .i64 y, .int .i64 m] w fun e w' => e = .returned (.int .i64 (lenOf y m)) ∧ Grew w w' := by
  by_cases h : isYr y = true
  · by_cases h1 : m < 1 ∨ 12 < m
    · rw [len_none y m (.inr h1)]; exact civ_Length_none y m w hy hm (.inr ⟨h, h1⟩)
    · by_cases h2 : m = 2 ∧ leapOf y = true
      · obtain ⟨rfl, h2⟩ := h2
        rw [len_feb y 2 h rfl h2]; exact civ_Length_feb y w h h2
      · rw [len_tab y m h (by omega) h2]
        exact civ_Length_tab y m w ht h (by omega) (fun e => by simpa using fun l => h2 ⟨e, l⟩)
  · rw [len_none y m (.inl h)]; exact civ_Length_none y m w hy hm (.inl (by simpa using h))

theorem civ_leapsTill (y : Int) (w : World) (hy : 0 ≤ y ∧ y ≤ 9223372036854775807) :
    Calls Tryd.prog 38 #[.int .i64 y] w fun e w' => e = .returned (.int .i64 (y / 4 - y / 100 + y / 400)) ∧ Grew w w' := by
  have t4 : y.tdiv 4 = y / 4 := Int.tdiv_eq_ediv_of_nonneg hy.1
  have t1 : y.tdiv 100 = y / 100 := Int.tdiv_eq_ediv_of_nonneg hy.1
  have t2 : y.tdiv 400 = y / 400 := Int.tdiv_eq_ediv_of_nonneg hy.1
  go_enter Tryd.func38, Tryd.ntmps38
  go_wp2
  all_goals go_ret
  all_goals exact ⟨rfl, Grew.refl _⟩
end Go.Proofs.YtnfijelcnemgbaaDoor

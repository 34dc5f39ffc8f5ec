/-
  Contracts of civil: years, leap years, lengths of months.
  Plain numbers of dates: the first day of a year and of a month. Nothing of the program.
  Contracts of civil: the first day of a month.
  Contracts of civil: the date of a number; numbers of dates; seconds and moments.
  Contracts of civil: numbers of dates; seconds and moments.
  Contracts of civil: the moment of a second.
  Contracts of the document's dates: leap years, lengths, numbers of dates.
  The known answers of civil; the walk of the law on dates.
  Contracts of the document's seconds and moments.
  Messages: the seconds of weeks and of moments; the program's ofGPS, ofUTC.
  Messages: Of of message: the region that looks the kind up, the region that lays what the kind tells, whatever comes up first.
  Rows of integers: what an argument tells; a call's own, joined.
  A region that calls Decode of UBX and keeps what it tells in a variable, whatever comes up first: what each operation leaves, the row of values of the call's own.
-/
import Derived.Test.YtnhigfkhdmkoeaaGreatDoorP02
import Derived.LoopTactic
import Derived.OwnWalk
import Derived.KernelRfl
import Derived.Test.YtnhigfkhdmkoeaaGreatDoorP04
import Derived.Test.YtnhigfkhdmkoeaaGreatDoorP03

namespace Go.Proofs.YtnhigfkhdmkoeaaGreatDoor
open Go.RowKit
set_option linter.unusedVariables false

/- Contracts of civil: years, leap years, lengths of months. -/
/-- 1900 to 2199. -/
def isYr (y : Int) : Bool := decide (1900 ≤ y ∧ y ≤ 2199)
def leapOf (y : Int) : Bool := decide ((1900 ≤ y ∧ y ≤ 2199) ∧ y % 4 = 0 ∧ (y % 100 ≠ 0 ∨ y % 400 = 0))
def lenTab (m : Int) : Int := if m = 2 then 28 else if m = 4 ∨ m = 6 ∨ m = 9 ∨ m = 11 then 30 else 31
def lenOf (y m : Int) : Int := if (1900 ≤ y ∧ y ≤ 2199) ∧ 1 ≤ m ∧ m ≤ 12 then (if m = 2 ∧ leapOf y = true then 29 else lenTab m) else 0

/-- The table of lengths lies in the program's one variable. -/
def Tab (w : World) : Prop := 0 < w.heap.size ∧ ∀ i : Nat, i < 12 → w.cell? ⟨0, i, none⟩ = some (.int .i64 (lenTab (i + 1)))
theorem Tab.grew {w w' : World} (h : Tab w) (g : Grew w w') : Tab w' :=
  ⟨Nat.lt_of_lt_of_le h.1 g.size, fun i hi => (g.cell (by exact h.1)).trans (h.2 i hi)⟩

theorem ret_bool {a b : Bool} (h : a = b) : Ending.returned (.bool a) = .returned (.bool b) := by rw [h]

theorem civ_isYear (y : Int) (w : World) (hy : -9223372036854775808 ≤ y ∧ y ≤ 9223372036854775807) :
    Calls Tryz.prog 134 #[.int .i64 y] w fun e w' => e = .returned (.bool (isYr y)) ∧ Grew w w' := by
  go_enter Tryz.func134, Tryz.ntmps134
  go_wp2
  all_goals go_ret
  all_goals (refine ⟨ret_bool ?_, Grew.refl _⟩; rw [Bool.eq_iff_iff]; simp [isYr])
  all_goals omega

theorem civ_Leap (y : Int) (w : World) (hy : -9223372036854775808 ≤ y ∧ y ≤ 9223372036854775807) :
    Calls Tryz.prog 135 #[.int .i64 y] w fun e w' => e = .returned (.bool (leapOf y)) ∧ Grew w w' := by
  have t4 : 0 ≤ y → y.tmod 4 = y % 4 := fun h => Int.tmod_eq_emod_of_nonneg h
  have t1 : 0 ≤ y → y.tmod 100 = y % 100 := fun h => Int.tmod_eq_emod_of_nonneg h
  have t2 : 0 ≤ y → y.tmod 400 = y % 400 := fun h => Int.tmod_eq_emod_of_nonneg h
  have hi : isYr y = true ↔ 1900 ≤ y ∧ y ≤ 2199 := by simp [isYr]
  have T4 := Lib.hid t4; have T1 := Lib.hid t1; have T2 := Lib.hid t2; have HI := Lib.hid hi
  clear t4 t1 t2 hi
  go_enter Tryz.func135, Tryz.ntmps135
  go_wp2_with (go_at_call 134; refine (civ_isYear _ _ hy).mono ?_; rintro e w' ⟨rfl, hg⟩)
  all_goals go_ret
  all_goals (refine ⟨ret_bool ?_, hg⟩; have t4 := T4.out; have t1 := T1.out; have t2 := T2.out; have hi := HI.out; rw [Bool.eq_iff_iff]; simp [leapOf])
  all_goals simp_all
  all_goals omega

theorem len_tab (y m : Int) (hy : isYr y = true) (hm : 1 ≤ m ∧ m ≤ 12) (h2 : ¬(m = 2 ∧ leapOf y = true)) : lenOf y m = lenTab m := by
  have hy : 1900 ≤ y ∧ y ≤ 2199 := by simpa [isYr] using hy
  unfold lenOf; rw [if_pos ⟨hy, hm⟩, if_neg h2]
theorem len_feb (y m : Int) (hy : isYr y = true) (hm : m = 2) (h2 : leapOf y = true) : lenOf y m = 29 := by
  have hy : 1900 ≤ y ∧ y ≤ 2199 := by simpa [isYr] using hy
  unfold lenOf; rw [if_pos ⟨hy, by omega⟩, if_pos ⟨hm, h2⟩]
theorem len_none (y m : Int) (h : ¬isYr y = true ∨ m < 1 ∨ 12 < m) : lenOf y m = 0 := by
  have hy : isYr y = true ↔ 1900 ≤ y ∧ y ≤ 2199 := by simp [isYr]
  unfold lenOf; rw [if_neg]; intro hh; rcases h with h | h | h
  · exact h (hy.2 hh.1)
  · omega
  · omega

theorem civ_Length_none (y m : Int) (w : World) (hy : -9223372036854775808 ≤ y ∧ y ≤ 9223372036854775807) (hm : -9223372036854775808 ≤ m ∧ m ≤ 9223372036854775807) (h : isYr y = false ∨ (isYr y = true ∧ (m < 1 ∨ 12 < m))) :
    Calls Tryz.prog 119 #[.int .i64 y, .int .i64 m] w fun e w' => e = .returned (.int .i64 0) ∧ Grew w w' := by
  have H1 := fun w => Lib.hid (civ_isYear y w hy)
  rcases h with h | ⟨h, h' | h'⟩
  all_goals rw [h] at H1
  all_goals
    go_enter Tryz.func119, Tryz.ntmps119
    go_wp2_with fail
    refine (H1 _).out.mono ?_
    rintro e w1 ⟨rfl, g1⟩
    go_wp2
    all_goals go_ret
    all_goals exact ⟨rfl, g1⟩

theorem civ_Length_feb (y : Int) (w : World) (hy : isYr y = true) (h2 : leapOf y = true) :
    Calls Tryz.prog 119 #[.int .i64 y, .int .i64 2] w fun e w' => e = .returned (.int .i64 29) ∧ Grew w w' := by
  have hy' : 1900 ≤ y ∧ y ≤ 2199 := by simpa [isYr] using hy
  have H1 := fun w => Lib.hid (civ_isYear y w (by omega))
  have H2 := fun w => Lib.hid (civ_Leap y w (by omega))
  rw [hy] at H1; rw [h2] at H2
  go_enter Tryz.func119, Tryz.ntmps119
  go_wp2_with fail
  refine (H1 _).out.mono ?_
  rintro e w1 ⟨rfl, g1⟩
  go_wp2_with fail
  refine (H2 _).out.mono ?_
  rintro e w2 ⟨rfl, g2⟩
  go_wp2
  all_goals go_ret
  all_goals exact ⟨rfl, g1.trans g2⟩

theorem civ_Length_tab (y m : Int) (w : World) (ht : Tab w) (hy : isYr y = true) (hm : 1 ≤ m ∧ m ≤ 12) (h2 : m = 2 → leapOf y = false) :
    Calls Tryz.prog 119 #[.int .i64 y, .int .i64 m] w fun e w' => e = .returned (.int .i64 (lenTab m)) ∧ Grew w w' := by
  have hy' : 1900 ≤ y ∧ y ≤ 2199 := by simpa [isYr] using hy
  have H1 := fun w => Lib.hid (civ_isYear y w (by omega))
  have H2 := fun w => Lib.hid (civ_Leap y w (by omega))
  have hcell : ∀ w', Grew w w' → w'.cell? ⟨0, (m - 1).toNat, none⟩ = some (.int .i64 (lenTab m)) := fun w' g => by
    have := (ht.grew g).2 (m - 1).toNat (by omega)
    rw [this, show (((m - 1).toNat : Int) + 1) = m by omega]
  have HC := Lib.hid hcell
  clear hcell
  rw [hy] at H1
  by_cases hm2 : m = 2
  · subst hm2
    rw [h2 rfl] at H2
    go_enter Tryz.func119, Tryz.ntmps119
    go_wp2_with fail
    refine (H1 _).out.mono ?_
    rintro e w1 ⟨rfl, g1⟩
    go_wp2_with fail
    refine (H2 _).out.mono ?_
    rintro e w2 ⟨rfl, g2⟩
    have hc : w2.cell? ⟨0, 1, none⟩ = some (.int .i64 (lenTab 2)) := HC.out w2 (g1.trans g2)
    go_wp2
    all_goals go_ret
    all_goals exact ⟨rfl, g1.trans g2⟩
  · go_enter Tryz.func119, Tryz.ntmps119
    go_wp2_with fail
    refine (H1 _).out.mono ?_
    rintro e w1 ⟨rfl, g1⟩
    have hc := HC.out w1 g1
    rw [show (m - 1).toNat = m.toNat - 1 by omega] at hc
    go_wp2
    all_goals go_ret
    all_goals exact ⟨rfl, g1⟩

theorem civ_Length (y m : Int) (w : World) (hy : -9223372036854775808 ≤ y ∧ y ≤ 9223372036854775807) (hm : -9223372036854775808 ≤ m ∧ m ≤ 9223372036854775807) (ht : Tab w) :
    Calls Tryz.prog 119 #[.int .i64 y, .int .i64 m] w fun e w' => e = .returned (.int .i64 (lenOf y m)) ∧ Grew w w' := by
  by_cases h : isYr y = true
  · by_cases h1 : m < 1 ∨ 12 < m
    · rw [len_none y m (.inr h1)]; exact civ_Length_none y m w hy hm (.inr ⟨h, h1⟩)
    · by_cases h2 : m = 2 ∧ leapOf y = true
      · obtain ⟨rfl, h2⟩ := h2
        rw [len_feb y 2 h rfl h2]; exact civ_Length_feb y w h h2
      · rw [len_tab y m h (by omega) h2]
        exact civ_Length_tab y m w ht h (by omega) (fun e => by simpa using fun l => h2 ⟨e, l⟩)
  · rw [len_none y m (.inl h)]; exact civ_Length_none y m w hy hm (.inl (by simpa using h))

theorem civ_leapsTill (y : Int) (w : World) (hy : 0 ≤ y ∧ y ≤ 9223372036854775807) :
    Calls Tryz.prog 136 #[.int .i64 y] w fun e w' => e = .returned (.int .i64 (y / 4 - y / 100 + y / 400)) ∧ Grew w w' := by
  have t4 : y.tdiv 4 = y / 4 := Int.tdiv_eq_ediv_of_nonneg hy.1
  have t1 : y.tdiv 100 = y / 100 := Int.tdiv_eq_ediv_of_nonneg hy.1
  have t2 : y.tdiv 400 = y / 400 := Int.tdiv_eq_ediv_of_nonneg hy.1
  go_enter Tryz.func136, Tryz.ntmps136
  go_wp2
  all_goals go_ret
  all_goals exact ⟨rfl, Grew.refl _⟩
/- Plain numbers of dates: the first day of a year and of a month. Nothing of the program. -/
/-- The days of a year's first k months. -/
def cum (y : Int) : Nat → Int
  | 0 => 0
  | k + 1 => cum y k + lenOf y (k + 1)
/-- The number of a year's first day. -/
def base (y : Int) : Int := 365 * (y - 1900) + ((y - 1) / 4 - (y - 1) / 100 + (y - 1) / 400) - 460

theorem len_le (y m : Int) : 0 ≤ lenOf y m ∧ lenOf y m ≤ 31 := by
  unfold lenOf lenTab; (repeat' split) <;> omega
theorem len_ge (y m : Int) (hy : 1900 ≤ y ∧ y ≤ 2199) (hm : 1 ≤ m ∧ m ≤ 12) : 28 ≤ lenOf y m := by
  unfold lenOf lenTab; rw [if_pos ⟨hy, hm⟩]; (repeat' split) <;> omega
theorem cum_step (y : Int) (k : Nat) : cum y (k + 1) = cum y k + lenOf y (k + 1) := rfl
theorem cum_le (y : Int) (k : Nat) : 0 ≤ cum y k ∧ cum y k ≤ 31 * k := by
  induction k with
  | zero => simp [cum]
  | succ k ih => have := len_le y (k + 1); unfold cum; omega
theorem cum_mono (y : Int) {j k : Nat} (h : j ≤ k) : cum y j ≤ cum y k := by
  induction k with
  | zero => obtain rfl : j = 0 := by omega
            exact Int.le_refl _
  | succ k ih =>
    by_cases e : j = k + 1
    · subst e; exact Int.le_refl _
    · have := ih (by omega); have := len_le y (k + 1); rw [cum_step]; omega
theorem cum_year (y : Int) (hy : 1900 ≤ y ∧ y ≤ 2199) : cum y 12 = if leapOf y = true then 366 else 365 := by
  have e : ∀ m : Int, 1 ≤ m → m ≤ 12 → lenOf y m = if m = 2 ∧ leapOf y = true then 29 else lenTab m := fun m h1 h2 => by
    unfold lenOf; rw [if_pos ⟨hy, h1, h2⟩]
  show 0 + lenOf y 1 + lenOf y 2 + lenOf y 3 + lenOf y 4 + lenOf y 5 + lenOf y 6 + lenOf y 7 + lenOf y 8 + lenOf y 9 + lenOf y 10 + lenOf y 11 + lenOf y 12 = _
  rw [e 1 (by decide) (by decide), e 2 (by decide) (by decide), e 3 (by decide) (by decide), e 4 (by decide) (by decide), e 5 (by decide) (by decide), e 6 (by decide) (by decide), e 7 (by decide) (by decide), e 8 (by decide) (by decide), e 9 (by decide) (by decide), e 10 (by decide) (by decide), e 11 (by decide) (by decide), e 12 (by decide) (by decide)]
  by_cases h : leapOf y = true <;> simp [h, lenTab]
theorem base_next (y : Int) (hy : 1900 ≤ y ∧ y ≤ 2199) : base (y + 1) = base y + cum y 12 := by
  rw [cum_year y hy]
  have hl : leapOf y = true ↔ y % 4 = 0 ∧ (y % 100 ≠ 0 ∨ y % 400 = 0) := by simp [leapOf, hy]
  unfold base
  split
  · rename_i h; have := hl.1 h; omega
  · rename_i h; have : ¬(y % 4 = 0 ∧ (y % 100 ≠ 0 ∨ y % 400 = 0)) := fun k => h (hl.2 k)
    omega
theorem base_mono {y z : Int} (h : y ≤ z) : base y ≤ base z := by
  by_cases e : y = z
  · subst e; exact Int.le_refl _
  · unfold base; omega
theorem base_1900 : base 1900 = 0 := by decide
theorem base_2200 : base 2200 = 109573 := by decide
theorem base_le (y : Int) (h : 1900 ≤ y) : base y ≤ 366 * (y - 1900) := by unfold base; omega
theorem base_ge (y : Int) (h : 1900 ≤ y) : 0 ≤ base y := by unfold base; omega

/-- A number's month: the first day is not behind it, the next month's is. -/
structure InMonth (n y : Int) (m : Nat) : Prop where
  hy : 1900 ≤ y ∧ y ≤ 2199
  hm : 1 ≤ m ∧ m ≤ 12
  lo : base y + cum y (m - 1) ≤ n
  hi : n < base y + cum y m

theorem InMonth.not_year {n y z : Int} {m k : Nat} (a : InMonth n y m) (b : InMonth n z k) (h : y < z) : False := by
  have h1 := cum_mono y a.hm.2
  have h2 := base_next y a.hy
  have h3 := base_mono (y := y + 1) (z := z) (by omega)
  have h4 := (cum_le z (k - 1)).1
  have := a.hi; have := b.lo; omega
theorem InMonth.not_month {n y : Int} {m k : Nat} (a : InMonth n y m) (b : InMonth n y k) (h : m < k) : False := by
  have h1 := cum_mono y (j := m) (k := k - 1) (by omega)
  have := a.hi; have := b.lo; omega
theorem InMonth.unique {n y z : Int} {m k : Nat} (a : InMonth n y m) (b : InMonth n z k) : y = z ∧ m = k := by
  have e : y = z := by
    rcases Int.lt_trichotomy y z with h | h | h
    · exact (a.not_year b h).elim
    · exact h
    · exact (b.not_year a h).elim
  subst e
  refine ⟨rfl, ?_⟩
  rcases Nat.lt_trichotomy m k with h | h | h
  · exact (a.not_month b h).elim
  · exact h
  · exact (b.not_month a h).elim
theorem InMonth.range {n y : Int} {m : Nat} (a : InMonth n y m) : 0 ≤ n ∧ n < 109573 := by
  have h1 := base_ge y a.hy.1; have h2 := (cum_le y (m - 1)).1; have h3 := cum_mono y a.hm.2
  have h4 := base_next y a.hy; have h5 := base_mono (y := y + 1) (z := 2200) (by have := a.hy; omega)
  rw [base_2200] at h5
  have := a.lo; have := a.hi; omega
theorem InMonth.len {n y : Int} {m : Nat} (a : InMonth n y m) : n < base y + cum y (m - 1) + lenOf y m := by
  obtain ⟨k, rfl⟩ : ∃ k, m = k + 1 := ⟨m - 1, by have := a.hm; omega⟩
  have h := a.hi; rw [cum_step] at h
  simpa [Int.add_assoc] using h
/- Contracts of civil: the first day of a month. -/
set_option maxHeartbeats 1000000 in
theorem civ_firstDay (y : Int) (m : Nat) (w : World) (hy : 1900 ≤ y ∧ y ≤ 2200) (hm : 1 ≤ m ∧ m ≤ 12) (ht : Tab w) :
    Calls Tryz.prog 120 #[.int .i64 y, .int .i64 (m : Nat)] w fun e w' => e = .returned (.int .i64 (base y + cum y (m - 1))) ∧ Grew w w' := by
  have HB : Hid (365 * (y - 1900) + ((y - 1) / 4 - (y - 1) / 100 + (y - 1) / 400) - 460 = base y) := rfl
  have hb := base_ge y (by omega)
  have hb' := base_le y (by omega)
  have hlp : 0 ≤ ((y - 1) / 4 - (y - 1) / 100 + (y - 1) / 400) ∧ ((y - 1) / 4 - (y - 1) / 100 + (y - 1) / 400) ≤ 2000 := by omega
  have H1 := fun w => Lib.hid (civ_leapsTill (y - 1) w (by omega))
  have H2 := fun w => Lib.hid (civ_leapsTill 1899 w (by omega))
  rw [show (1899 : Int) / 4 - 1899 / 100 + 1899 / 400 = 460 from rfl] at H2
  generalize ((y - 1) / 4 - (y - 1) / 100 + (y - 1) / 400) = lp at H1 HB hlp
  go_enter Tryz.func120, Tryz.ntmps120
  go_wp2_with fail
  refine (H1 _).out.mono ?_
  rintro e w1 ⟨rfl, g1⟩
  go_wp2_with fail
  refine (H2 _).out.mono ?_
  rintro e w2 ⟨rfl, g2⟩
  have G0 := Lib.hid (g1.trans g2)
  clear H1 H2
  go_wp2_with fail
  rw [HB.out]
  go_loopw [5, 6] (fun d i wr => ∃ (j : Nat) (c : Int), j + 1 ≤ m ∧ i = .int .i64 ((j : Int) + 1) ∧ d = .int .i64 (base y + c) ∧ Hid (cum y j = c) ∧ Grew w wr) (fun _ i _ => m - (intOf i).toNat)
  case atStart => exact ⟨0, 0, by omega, rfl, by simp, Lib.hid rfl, G0.out⟩
  case round =>
    obtain ⟨j, c, hj, rfl, rfl, hc, hg⟩ := hrel
    have hcb : 0 ≤ c ∧ c ≤ 31 * j := by have := cum_le y j; rw [hc.out] at this; exact this
    have hlb := len_le y (j + 1)
    have hl := fun w ht => Lib.hid (civ_Length y (j + 1) w (by omega) (by omega) ht)
    obtain ⟨l, HL⟩ : ∃ l, Hid (lenOf y (j + 1) = l) := ⟨_, Lib.hid rfl⟩
    rw [HL.out] at hlb hl
    have hs : Hid (cum y (j + 1) = c + l) := by show _ = _; rw [cum_step, hc.out, HL.out]
    go_wp2_with (go_at_call 119; refine (hl _ (ht.grew hg)).out.mono ?_; rintro e w3 ⟨rfl, g3⟩)
    · go_roundw
      case rel => exact ⟨j + 1, c + l, by omega, by simp, by simp [Int.add_assoc], hs, hg.trans g3⟩
      case measure => simp [intOf]; omega
    · go_ret
      refine ⟨ret_int ?_, hg⟩
      obtain rfl : m = j + 1 := by omega
      rw [← hc.out]; simp
/- Contracts of civil: the date of a number; numbers of dates; seconds and moments. -/
theorem civ_firstDay_one (y : Int) (w : World) (hy : 1900 ≤ y ∧ y ≤ 2200) (ht : Tab w) :
    Calls Tryz.prog 120 #[.int .i64 y, .int .i64 1] w fun e w' => e = .returned (.int .i64 (base y)) ∧ Grew w w' := by
  have := civ_firstDay y 1 w hy (by omega) ht
  rw [show base y + cum y (1 - 1) = base y by simp [cum]] at this
  exact this

/- Contracts of civil: numbers of dates; seconds and moments. -/
theorem civ_Day_bad (y m d : Int) (w : World) (hy : -9223372036854775808 ≤ y ∧ y ≤ 9223372036854775807) (hm : -9223372036854775808 ≤ m ∧ m ≤ 9223372036854775807) (hd : -9223372036854775808 ≤ d ∧ d ≤ 9223372036854775807) (ht : Tab w) (hb : d < 1 ∨ lenOf y m < d) :
    Calls Tryz.prog 97 #[.int .i64 y, .int .i64 m, .int .i64 d] w fun e w' => e = .returned (.tuple #[.int .i64 0, .int .i64 2]) ∧ Grew w w' := by
  have H1 := fun w ht => Lib.hid (civ_Length y m w hy hm ht)
  have hl := len_le y m
  generalize lenOf y m = l at *
  by_cases h1 : d < 1
  · go_enter Tryz.func97, Tryz.ntmps97
    go_wp2_with fail
    go_ret2
    exact ⟨rfl, Grew.refl _⟩
  · have h2 : l < d := by omega
    clear hb
    go_enter Tryz.func97, Tryz.ntmps97
    go_wp2_with fail
    refine (H1 _ ht).out.mono ?_
    rintro e w1 ⟨rfl, g1⟩
    go_wp2_with fail
    go_ret2
    exact ⟨rfl, g1⟩

theorem civ_Day (y : Int) (m : Nat) (d : Int) (w : World) (hy : 1900 ≤ y ∧ y ≤ 2199) (hm : 1 ≤ m ∧ m ≤ 12) (hd : 1 ≤ d ∧ d ≤ lenOf y m) (ht : Tab w) :
    Calls Tryz.prog 97 #[.int .i64 y, .int .i64 (m : Nat), .int .i64 d] w fun e w' => e = .returned (.tuple #[.int .i64 (base y + cum y (m - 1) + d - 1), .int .i64 0]) ∧ Grew w w' := by
  have H1 := fun w ht => Lib.hid (civ_Length y m w (by omega) (by omega) ht)
  have H2 := fun w ht => Lib.hid (civ_firstDay y m w (by omega) hm ht)
  have hl := len_le y m
  have hB := base_ge y (by omega); have hB' := base_le y (by omega); have hC := cum_le y (m - 1)
  have hf : 0 ≤ base y + cum y (m - 1) ∧ base y + cum y (m - 1) ≤ 120000 := by omega
  clear hB hB' hC
  generalize base y + cum y (m - 1) = f at *
  generalize lenOf y m = l at *
  go_enter Tryz.func97, Tryz.ntmps97
  go_wp2_with fail
  refine (H1 _ ht).out.mono ?_
  rintro e w1 ⟨rfl, g1⟩
  go_wp2_with fail
  refine (H2 _ (ht.grew g1)).out.mono ?_
  rintro e w2 ⟨rfl, g2⟩
  go_wp2_with fail
  go_ret2
  exact ⟨rfl, g1.trans g2⟩

def isTm (h m s : Int) : Bool := decide (0 ≤ h ∧ h < 24 ∧ 0 ≤ m ∧ m < 60 ∧ 0 ≤ s ∧ s < 60)
theorem civ_isTime (h m s : Int) (w : World) (hh : -9223372036854775808 ≤ h ∧ h ≤ 9223372036854775807) (hm : -9223372036854775808 ≤ m ∧ m ≤ 9223372036854775807) (hs : -9223372036854775808 ≤ s ∧ s ≤ 9223372036854775807) :
    Calls Tryz.prog 98 #[.int .i64 h, .int .i64 m, .int .i64 s] w fun e w' => e = .returned (.bool (isTm h m s)) ∧ Grew w w' := by
  go_enter Tryz.func98, Tryz.ntmps98
  go_wp2
  all_goals go_ret
  all_goals (refine ⟨ret_bool ?_, Grew.refl _⟩; rw [Bool.eq_iff_iff]; simp [isTm])
  all_goals omega

/-- A moment as a value. -/
@[reducible] def moment (y m d h i s : Int) : Value := .agg #[.int .i64 y, .int .i64 m, .int .i64 d, .int .i64 h, .int .i64 i, .int .i64 s]

/-- Six cells of a block. -/
def Six (w : World) (p : Nat) (a b c d e f : Value) : Prop := p < w.heap.size ∧ w.cell? ⟨p, 0, none⟩ = some a ∧ w.cell? ⟨p, 1, none⟩ = some b ∧ w.cell? ⟨p, 2, none⟩ = some c ∧ w.cell? ⟨p, 3, none⟩ = some d ∧ w.cell? ⟨p, 4, none⟩ = some e ∧ w.cell? ⟨p, 5, none⟩ = some f
theorem Six.grew {w w' : World} {p : Nat} {a b c d e f : Value} (h : Six w p a b c d e f) (g : Grew w w') : Six w' p a b c d e f := by
  obtain ⟨hp, h0, h1, h2, h3, h4, h5⟩ := h
  exact ⟨Nat.lt_of_lt_of_le hp g.size, (g.cell hp).trans h0, (g.cell hp).trans h1, (g.cell hp).trans h2, (g.cell hp).trans h3, (g.cell hp).trans h4, (g.cell hp).trans h5⟩
theorem six_new (w : World) (a b c d e f : Value) (E : TypeId) : ∃ W, w.alloc (.cells #[a, b, c, d, e, f] E) = W ∧ Grew w W ∧ Six W w.heap.size a b c d e f := by
  refine ⟨_, rfl, (Grew.refl _).alloc _, by simp, ?_, ?_, ?_, ?_, ?_, ?_⟩ <;> simp [go_sem]

set_option maxHeartbeats 1000000 in
theorem civ_Second (y : Int) (m : Nat) (d h i s : Int) (w : World) (hy : 1900 ≤ y ∧ y ≤ 2199) (hm : 1 ≤ m ∧ m ≤ 12) (hd : 1 ≤ d ∧ d ≤ lenOf y m) (hh : 0 ≤ h ∧ h < 24) (hi : 0 ≤ i ∧ i < 60) (hs : 0 ≤ s ∧ s < 60) (ht : Tab w) :
    Calls Tryz.prog 79 #[moment y m d h i s] w fun e w' => e = .returned (.tuple #[.int .i64 ((base y + cum y (m - 1) + d - 1) * 86400 + (h * 3600 + i * 60 + s)), .int .i64 0]) ∧ Grew w w' := by
  have H1 := fun w ht => Lib.hid (civ_Day y m d w hy hm hd ht)
  have H2 := fun w => Lib.hid (civ_isTime h i s w (by omega) (by omega) (by omega))
  rw [show isTm h i s = true by simp [isTm]; omega] at H2
  have hl := len_le y m
  have hB := base_ge y (by omega); have hB' := base_le y (by omega); have hC := cum_le y (m - 1)
  have hf : 0 ≤ base y + cum y (m - 1) + d - 1 ∧ base y + cum y (m - 1) + d - 1 ≤ 120000 := by omega
  clear hB hB' hC
  generalize base y + cum y (m - 1) + d - 1 = f at *
  generalize lenOf y m = l at *
  go_enter Tryz.func79, Tryz.ntmps79
  go_wp2_with fail
  obtain ⟨W, hW, g0, x⟩ := six_new w (.int .i64 y) (.int .i64 m) (.int .i64 d) (.int .i64 h) (.int .i64 i) (.int .i64 s) 75
  rw [hW]
  clear hW
  refine (H1 _ (ht.grew g0)).out.mono ?_
  rintro e w1 ⟨rfl, g1⟩
  obtain ⟨_, _, _, _, c3, c4, c5⟩ := x.grew g1
  go_wp2_with fail
  refine (H2 _).out.mono ?_
  rintro e w2 ⟨rfl, g2⟩
  clear c3 c4 c5
  obtain ⟨_, _, _, _, c3, c4, c5⟩ := x.grew (g1.trans g2)
  go_wp2_with fail
  go_ret2
  exact ⟨rfl, g0.trans (g1.trans g2)⟩

set_option maxHeartbeats 1000000 in
theorem civ_Second_bad (y m d h i s : Int) (w : World) (hy : -9223372036854775808 ≤ y ∧ y ≤ 9223372036854775807) (hm : -9223372036854775808 ≤ m ∧ m ≤ 9223372036854775807) (hd : -9223372036854775808 ≤ d ∧ d ≤ 9223372036854775807)
    (hh : -9223372036854775808 ≤ h ∧ h ≤ 9223372036854775807) (hi : -9223372036854775808 ≤ i ∧ i ≤ 9223372036854775807) (hs : -9223372036854775808 ≤ s ∧ s ≤ 9223372036854775807) (ht : Tab w) (hb : (d < 1 ∨ lenOf y m < d) ∨ isTm h i s = false) :
    Calls Tryz.prog 79 #[moment y m d h i s] w fun e w' => e = .returned (.tuple #[.int .i64 0, .int .i64 2]) ∧ Grew w w' := by
  by_cases h1 : d < 1 ∨ lenOf y m < d
  · have H1 := fun w ht => Lib.hid (civ_Day_bad y m d w hy hm hd ht h1)
    clear hb h1
    go_enter Tryz.func79, Tryz.ntmps79
    go_wp2_with fail
    obtain ⟨W, hW, g0, x⟩ := six_new w (.int .i64 y) (.int .i64 m) (.int .i64 d) (.int .i64 h) (.int .i64 i) (.int .i64 s) 75
    rw [hW]
    clear hW
    refine (H1 _ (ht.grew g0)).out.mono ?_
    rintro e w1 ⟨rfl, g1⟩
    obtain ⟨_, _, _, _, c3, c4, c5⟩ := x.grew g1
    go_wp2_with fail
    go_ret2
    exact ⟨rfl, g0.trans g1⟩
  · have h2 : isTm h i s = false := hb.resolve_left h1
    have hl := len_none y m
    have hym : (1900 ≤ y ∧ y ≤ 2199) ∧ 1 ≤ m ∧ m ≤ 12 := by
      apply Classical.byContradiction
      intro hc
      have : lenOf y m = 0 := by unfold lenOf; rw [if_neg hc]
      omega
    obtain ⟨k, rfl⟩ := Int.eq_ofNat_of_zero_le (show 0 ≤ m by omega)
    have H1 := fun w ht => Lib.hid (civ_Day y k d w hym.1 (by omega) (by omega) ht)
    have H2 := fun w => Lib.hid (civ_isTime h i s w (by omega) (by omega) (by omega))
    rw [h2] at H2
    clear hb h1 h2 hl
    generalize base y + cum y (k - 1) + d - 1 = f at *
    go_enter Tryz.func79, Tryz.ntmps79
    go_wp2_with fail
    obtain ⟨W, hW, g0, x⟩ := six_new w (.int .i64 y) (.int .i64 (k : Nat)) (.int .i64 d) (.int .i64 h) (.int .i64 i) (.int .i64 s) 75
    rw [hW]
    clear hW
    refine (H1 _ (ht.grew g0)).out.mono ?_
    rintro e w1 ⟨rfl, g1⟩
    obtain ⟨_, _, _, _, c3, c4, c5⟩ := x.grew g1
    go_wp2_with fail
    refine (H2 _).out.mono ?_
    rintro e w2 ⟨rfl, g2⟩
    go_wp2_with fail
    go_ret2
    exact ⟨rfl, g0.trans (g1.trans g2)⟩
/- Contracts of civil: the moment of a second. -/
/-- Six cells of a block, that may be written. -/
def Wet (w : World) (p : Nat) : Prop := w.frozen? ⟨p, 0, none⟩ = false ∧ w.frozen? ⟨p, 1, none⟩ = false ∧ w.frozen? ⟨p, 2, none⟩ = false ∧ w.frozen? ⟨p, 3, none⟩ = false ∧ w.frozen? ⟨p, 4, none⟩ = false ∧ w.frozen? ⟨p, 5, none⟩ = false
theorem Wet.grew {w w' : World} {p : Nat} (h : Wet w p) (hp : p < w.heap.size) (g : Grew w w') : Wet w' p := by
  obtain ⟨h0, h1, h2, h3, h4, h5⟩ := h
  exact ⟨(g.frozen hp).trans h0, (g.frozen hp).trans h1, (g.frozen hp).trans h2, (g.frozen hp).trans h3, (g.frozen hp).trans h4, (g.frozen hp).trans h5⟩
theorem six_wet (w : World) (a b c d e f : Value) (E : TypeId) : ∃ W, w.alloc (.cells #[a, b, c, d, e, f] E) = W ∧ Grew w W ∧ Six W w.heap.size a b c d e f ∧ Wet W w.heap.size := by
  refine ⟨_, rfl, (Grew.refl _).alloc _, ⟨by simp, ?_, ?_, ?_, ?_, ?_, ?_⟩, ?_, ?_, ?_, ?_, ?_, ?_⟩ <;> simp [go_sem]
theorem six_put {w w1 : World} (p : Nat) (g : Grew w w1) (hp : w.heap.size ≤ p) (a b c d e f : Value) :
    Grew w ((((((w1.setCell ⟨p, 0, none⟩ a).setCell ⟨p, 1, none⟩ b).setCell ⟨p, 2, none⟩ c).setCell ⟨p, 3, none⟩ d).setCell ⟨p, 4, none⟩ e).setCell ⟨p, 5, none⟩ f) :=
  (((((g.setCell hp _).setCell hp _).setCell hp _).setCell hp _).setCell hp _).setCell hp _


/- Contracts of the document's dates: leap years, lengths, numbers of dates. -/
theorem ref03_Leap (y : Int) (w : World) (hy : -9223372036854775808 ≤ y ∧ y ≤ 9223372036854775807) :
    Calls Tryz.prog 99 #[.int .i64 y] w fun e w' => e = .returned (.bool (leapOf y)) ∧ Grew w w' := by
  by_cases h : 1900 ≤ y ∧ y ≤ 2199
  · have t4 : y.tmod 4 = y % 4 := Int.tmod_eq_emod_of_nonneg (by omega)
    have t1 : y.tmod 100 = y % 100 := Int.tmod_eq_emod_of_nonneg (by omega)
    have t2 : y.tmod 400 = y % 400 := Int.tmod_eq_emod_of_nonneg (by omega)
    go_enter Tryz.func99, Tryz.ntmps99
    go_wp2
    all_goals go_ret
    all_goals (refine ⟨ret_bool ?_, Grew.refl _⟩; clear t4 t1 t2; rw [Bool.eq_iff_iff]; simp [leapOf])
    all_goals simp only [beq_eq_false_iff_ne, beq_iff_eq, ne_eq] at *
    all_goals omega
  · have e : leapOf y = false := by simp [leapOf]; omega
    rw [e]
    rcases (show y < 1900 ∨ 2199 < y by omega) with h | h
    all_goals
      go_enter Tryz.func99, Tryz.ntmps99
      go_wp2
      all_goals go_ret
      all_goals exact ⟨rfl, Grew.refl _⟩

set_option maxHeartbeats 1000000 in
theorem ref03_Length_tab (y : Int) (k : Nat) (w : World) (hy : 1900 ≤ y ∧ y ≤ 2199) (hk : 1 ≤ k ∧ k ≤ 12) :
    Calls Tryz.prog 80 #[.int .i64 y, .int .i64 (k : Nat)] w fun e w' => e = .returned (.int .i64 (lenOf y k)) ∧ Grew w w' := by
  have e : ∀ m : Int, 1 ≤ m → m ≤ 12 → lenOf y m = if m = 2 ∧ leapOf y = true then 29 else lenTab m := fun m h1 h2 => by
    unfold lenOf; rw [if_pos ⟨hy, h1, h2⟩]
  have H2 := fun w => Lib.hid (ref03_Leap y w (by omega))
  rw [e k (by omega) (by omega)]
  clear e
  obtain ⟨j, rfl⟩ : ∃ j, k = j + 1 := ⟨k - 1, by omega⟩
  have hj : j < 12 := by omega
  clear hk
  match j, hj with
  | 1, _ =>
    cases hl : leapOf y <;> rw [hl] at H2 <;> clear hl
    all_goals
      go_enter Tryz.func80, Tryz.ntmps80
      go_wp2_with fail
      refine (H2 _).out.mono ?_
      rintro e w2 ⟨rfl, g2⟩
      go_wp2
      all_goals go_ret
      all_goals exact ⟨rfl, g2⟩
  | 0, _ | 2, _ | 3, _ | 4, _ | 5, _ | 6, _ | 7, _ | 8, _ | 9, _ | 10, _ | 11, _ =>
    clear H2
    go_enter Tryz.func80, Tryz.ntmps80
    go_wp2
    all_goals go_ret
    all_goals exact ⟨rfl, Grew.refl _⟩

set_option maxHeartbeats 1000000 in
theorem ref03_Length_none (y m : Int) (w : World) (hy : -9223372036854775808 ≤ y ∧ y ≤ 9223372036854775807) (hm : -9223372036854775808 ≤ m ∧ m ≤ 9223372036854775807) (h : ¬(1900 ≤ y ∧ y ≤ 2199) ∨ ((1900 ≤ y ∧ y ≤ 2199) ∧ (m < 1 ∨ 12 < m))) :
    Calls Tryz.prog 80 #[.int .i64 y, .int .i64 m] w fun e w' => e = .returned (.int .i64 0) ∧ Grew w w' := by
  rcases h with h | ⟨h, h'⟩
  · rcases (show y < 1900 ∨ 2199 < y by omega) with h | h
    all_goals
      go_enter Tryz.func80, Tryz.ntmps80
      go_wp2
      all_goals go_ret
      all_goals exact ⟨rfl, Grew.refl _⟩
  · have n1 : ¬m = 1 := by omega
    have n2 : ¬m = 2 := by omega
    have n3 : ¬m = 3 := by omega
    have n4 : ¬m = 4 := by omega
    have n5 : ¬m = 5 := by omega
    have n6 : ¬m = 6 := by omega
    have n7 : ¬m = 7 := by omega
    have n8 : ¬m = 8 := by omega
    have n9 : ¬m = 9 := by omega
    have n10 : ¬m = 10 := by omega
    have n11 : ¬m = 11 := by omega
    have n12 : ¬m = 12 := by omega
    clear h'
    go_enter Tryz.func80, Tryz.ntmps80
    go_wp2
    all_goals go_ret
    all_goals exact ⟨rfl, Grew.refl _⟩

theorem ref03_Length (y m : Int) (w : World) (hy : -9223372036854775808 ≤ y ∧ y ≤ 9223372036854775807) (hm : -9223372036854775808 ≤ m ∧ m ≤ 9223372036854775807) :
    Calls Tryz.prog 80 #[.int .i64 y, .int .i64 m] w fun e w' => e = .returned (.int .i64 (lenOf y m)) ∧ Grew w w' := by
  have hi : isYr y = true ↔ 1900 ≤ y ∧ y ≤ 2199 := by simp [isYr]
  by_cases h : 1900 ≤ y ∧ y ≤ 2199
  · by_cases h1 : m < 1 ∨ 12 < m
    · rw [len_none y m (.inr h1)]; exact ref03_Length_none y m w hy hm (.inr ⟨h, h1⟩)
    · obtain ⟨k, rfl⟩ := Int.eq_ofNat_of_zero_le (show 0 ≤ m by omega)
      exact ref03_Length_tab y k w h (by omega)
  · rw [len_none y m (.inl fun e => h (hi.1 e))]; exact ref03_Length_none y m w hy hm (.inl h)

theorem ref03_Day_bad (y m d : Int) (w : World) (hy : -9223372036854775808 ≤ y ∧ y ≤ 9223372036854775807) (hm : -9223372036854775808 ≤ m ∧ m ≤ 9223372036854775807) (hd : -9223372036854775808 ≤ d ∧ d ≤ 9223372036854775807) (hb : d < 1 ∨ lenOf y m < d) :
    Calls Tryz.prog 60 #[.int .i64 y, .int .i64 m, .int .i64 d] w fun e w' => e = .returned (.tuple #[.int .i64 0, .bool false]) ∧ Grew w w' := by
  have H1 := fun w => Lib.hid (ref03_Length y m w hy hm)
  have hl := len_le y m
  generalize lenOf y m = l at *
  by_cases h1 : d < 1
  · go_enter Tryz.func60, Tryz.ntmps60
    go_wp2_with fail
    go_ret2
    exact ⟨rfl, Grew.refl _⟩
  · have h2 : l < d := by omega
    clear hb
    go_enter Tryz.func60, Tryz.ntmps60
    go_wp2_with fail
    refine (H1 _).out.mono ?_
    rintro e w1 ⟨rfl, g1⟩
    go_wp2_with fail
    go_ret2
    exact ⟨rfl, g1⟩

set_option maxHeartbeats 1000000 in
theorem ref03_Day (y : Int) (m : Nat) (d : Int) (w : World) (hy : 1900 ≤ y ∧ y ≤ 2199) (hm : 1 ≤ m ∧ m ≤ 12) (hd : 1 ≤ d ∧ d ≤ lenOf y m) :
    Calls Tryz.prog 60 #[.int .i64 y, .int .i64 (m : Nat), .int .i64 d] w fun e w' => e = .returned (.tuple #[.int .i64 (base y + cum y (m - 1) + d - 1), .bool true]) ∧ Grew w w' := by
  have H1 := fun w => Lib.hid (ref03_Length y m w (by omega) (by omega))
  have hl := len_le y m
  generalize lenOf y m = l at *
  go_enter Tryz.func60, Tryz.ntmps60
  go_wp2_with fail
  refine (H1 _).out.mono ?_
  rintro e w1 ⟨rfl, g1⟩
  clear H1
  go_wp2_with fail
  go_loopw [8, 9] (fun n i wr => ∃ z B : Int, i = .int .i64 z ∧ n = .int .i64 B ∧ 1900 ≤ z ∧ z ≤ y ∧ Hid (base z = B) ∧ 0 ≤ B ∧ B ≤ 120000 ∧ Grew w wr) (fun _ i _ => (y - intOf i).toNat)
  case atStart => exact ⟨1900, 0, rfl, rfl, by omega, by omega, Lib.hid base_1900, by omega, by omega, g1⟩
  case round =>
    clear g1
    obtain ⟨z, B, rfl, rfl, hz0, hz1, HB, hB0, hB1, hg⟩ := hrel
    go_wp2_with fail
    · have hlt : z < y := by assumption
      rw [decide_eq_true hlt]
      go_loopw [8, 10] (fun n i wr => ∃ (j : Nat) (c : Int), j ≤ 12 ∧ i = .int .i64 ((j : Int) + 1) ∧ n = .int .i64 (B + c) ∧ Hid (cum z j = c) ∧ Grew w wr) (fun _ i _ => 13 - (intOf i).toNat)
      case atStart => exact ⟨0, 0, by omega, rfl, by simp, Lib.hid rfl, hg⟩
      case round =>
        clear hg
        obtain ⟨j, c, hj, rfl, rfl, hc, hg⟩ := hrel
        have hcb : 0 ≤ c ∧ c ≤ 31 * j := by have := cum_le z j; rw [hc.out] at this; exact this
        have hlb := len_le z (j + 1)
        have hl := fun w => Lib.hid (ref03_Length z (j + 1) w (by omega) (by omega))
        obtain ⟨l, HL⟩ : ∃ l, Hid (lenOf z (j + 1) = l) := ⟨_, Lib.hid rfl⟩
        rw [HL.out] at hlb hl
        have hs : Hid (cum z (j + 1) = c + l) := by show _ = _; rw [cum_step, hc.out, HL.out]
        go_wp2_with (go_at_call 80; refine (hl _).out.mono ?_; rintro e w3 ⟨rfl, g3⟩)
        · go_roundw
          case rel => exact ⟨j + 1, c + l, by omega, by simp, by simp [Int.add_assoc], hs, hg.trans g3⟩
          case measure => simp [intOf]; omega
        · have e12 : j = 12 := by omega
          have HN : Hid (base (z + 1) = B + c) := by
            show _ = _; rw [base_next z ⟨by omega, by omega⟩, HB.out, ← hc.out, e12]
          have hN := HN.out
          have hN1 := base_le (z + 1) (by omega)
          have hN2 := base_ge (z + 1) (by omega)
          go_roundw
          case rel => exact ⟨z + 1, B + c, rfl, rfl, by omega, by omega, HN, by omega, by omega, hg⟩
          case measure => simp [intOf]; omega
    · rw [decide_eq_false (show ¬z < y by omega)]
      obtain rfl : z = y := by omega
      go_loopw [8, 11] (fun n i wr => ∃ (j : Nat) (c : Int), j + 1 ≤ m ∧ i = .int .i64 ((j : Int) + 1) ∧ n = .int .i64 (B + c) ∧ Hid (cum z j = c) ∧ Grew w wr) (fun _ i _ => m - (intOf i).toNat)
      case atStart => exact ⟨0, 0, by omega, rfl, by simp, Lib.hid rfl, hg⟩
      case round =>
        clear hg
        obtain ⟨j, c, hj, rfl, rfl, hc, hg⟩ := hrel
        have hcb : 0 ≤ c ∧ c ≤ 31 * j := by have := cum_le z j; rw [hc.out] at this; exact this
        have hlb := len_le z (j + 1)
        have hl := fun w => Lib.hid (ref03_Length z (j + 1) w (by omega) (by omega))
        obtain ⟨l, HL⟩ : ∃ l, Hid (lenOf z (j + 1) = l) := ⟨_, Lib.hid rfl⟩
        rw [HL.out] at hlb hl
        have hs : Hid (cum z (j + 1) = c + l) := by show _ = _; rw [cum_step, hc.out, HL.out]
        go_wp2_with (go_at_call 80; refine (hl _).out.mono ?_; rintro e w3 ⟨rfl, g3⟩)
        · go_roundw
          case rel => exact ⟨j + 1, c + l, by omega, by simp, by simp [Int.add_assoc], hs, hg.trans g3⟩
          case measure => simp [intOf]; omega
        · obtain rfl : m = j + 1 := by omega
          go_ret2
          refine ⟨?_, hg⟩
          rw [HB.out, show j + 1 - 1 = j by omega, hc.out]
          rfl
/- The known answers of civil; the walk of the law on dates. -/

/- Contracts of the document's seconds and moments. -/
theorem ret_pair_int {k l : IntKind} {a b : Int} {v : Value} (h : a = b) : Ending.returned (.tuple #[.int k a, v]) = .returned (.tuple #[.int k b, v]) := by rw [h]

set_option maxHeartbeats 1000000 in
theorem ref03_Second (y : Int) (m : Nat) (d h i s : Int) (w : World) (hy : 1900 ≤ y ∧ y ≤ 2199) (hm : 1 ≤ m ∧ m ≤ 12) (hd : 1 ≤ d ∧ d ≤ lenOf y m) (hh : 0 ≤ h ∧ h < 24) (hi : 0 ≤ i ∧ i < 60) (hs : 0 ≤ s ∧ s < 60) :
    Calls Tryz.prog 43 #[moment y m d h i s] w fun e w' => e = .returned (.tuple #[.int .i64 ((base y + cum y (m - 1) + d - 1) * 86400 + (h * 3600 + i * 60 + s)), .bool true]) ∧ Grew w w' := by
  have H1 := fun w => Lib.hid (ref03_Day y m d w hy hm hd)
  have hl := len_le y m
  have hB := base_ge y (by omega); have hB' := base_le y (by omega); have hC := cum_le y (m - 1)
  have hf : 0 ≤ base y + cum y (m - 1) + d - 1 ∧ base y + cum y (m - 1) + d - 1 ≤ 120000 := by omega
  clear hB hB' hC
  generalize base y + cum y (m - 1) + d - 1 = f at *
  generalize lenOf y m = l at *
  go_enter Tryz.func43, Tryz.ntmps43
  go_wp2_with fail
  obtain ⟨W, hW, g0, x⟩ := six_new w (.int .i64 y) (.int .i64 m) (.int .i64 d) (.int .i64 h) (.int .i64 i) (.int .i64 s) 75
  rw [hW]
  clear hW
  refine (H1 _).out.mono ?_
  rintro e w1 ⟨rfl, g1⟩
  obtain ⟨_, _, _, _, c3, c4, c5⟩ := x.grew g1
  go_wp2_with fail
  go_ret2
  refine ⟨?_, g0.trans g1⟩
  exact ret_pair_int (k := .i64) (l := .i64) (by omega)

set_option maxHeartbeats 2000000 in
theorem ref03_Second_bad (y m d h i s : Int) (w : World) (hy : -9223372036854775808 ≤ y ∧ y ≤ 9223372036854775807) (hm : -9223372036854775808 ≤ m ∧ m ≤ 9223372036854775807) (hd : -9223372036854775808 ≤ d ∧ d ≤ 9223372036854775807)
    (hh : -9223372036854775808 ≤ h ∧ h ≤ 9223372036854775807) (hi : -9223372036854775808 ≤ i ∧ i ≤ 9223372036854775807) (hs : -9223372036854775808 ≤ s ∧ s ≤ 9223372036854775807) (hb : (d < 1 ∨ lenOf y m < d) ∨ isTm h i s = false) :
    Calls Tryz.prog 43 #[moment y m d h i s] w fun e w' => e = .returned (.tuple #[.int .i64 0, .bool false]) ∧ Grew w w' := by
  by_cases h1 : d < 1 ∨ lenOf y m < d
  · have H1 := fun w => Lib.hid (ref03_Day_bad y m d w hy hm hd h1)
    clear hb h1
    go_enter Tryz.func43, Tryz.ntmps43
    go_wp2_with fail
    obtain ⟨W, hW, g0, x⟩ := six_new w (.int .i64 y) (.int .i64 m) (.int .i64 d) (.int .i64 h) (.int .i64 i) (.int .i64 s) 75
    rw [hW]
    clear hW
    refine (H1 _).out.mono ?_
    rintro e w1 ⟨rfl, g1⟩
    obtain ⟨_, _, _, _, c3, c4, c5⟩ := x.grew g1
    go_wp2_with fail
    go_ret2
    exact ⟨rfl, g0.trans g1⟩
  · have h2 : isTm h i s = false := hb.resolve_left h1
    have hym : (1900 ≤ y ∧ y ≤ 2199) ∧ 1 ≤ m ∧ m ≤ 12 := by
      apply Classical.byContradiction
      intro hc
      have : lenOf y m = 0 := by unfold lenOf; rw [if_neg hc]
      omega
    obtain ⟨k, rfl⟩ := Int.eq_ofNat_of_zero_le (show 0 ≤ m by omega)
    have H1 := fun w => Lib.hid (ref03_Day y k d w hym.1 (by omega) (by omega))
    have ht : ¬(0 ≤ h ∧ h < 24 ∧ 0 ≤ i ∧ i < 60 ∧ 0 ≤ s ∧ s < 60) := by simpa [isTm] using h2
    have hc : h < 0 ∨ (0 ≤ h ∧ 24 ≤ h) ∨ ((0 ≤ h ∧ h < 24) ∧ i < 0) ∨ ((0 ≤ h ∧ h < 24) ∧ 0 ≤ i ∧ 60 ≤ i) ∨ ((0 ≤ h ∧ h < 24) ∧ (0 ≤ i ∧ i < 60) ∧ s < 0) ∨ ((0 ≤ h ∧ h < 24) ∧ (0 ≤ i ∧ i < 60) ∧ 0 ≤ s ∧ 60 ≤ s) := by omega
    clear hb h1 h2 ht
    generalize base y + cum y (k - 1) + d - 1 = f at *
    rcases hc with hc | hc | hc | hc | hc | hc
    all_goals
      go_enter Tryz.func43, Tryz.ntmps43
      go_wp2_with fail
      obtain ⟨W, hW, g0, x⟩ := six_new w (.int .i64 y) (.int .i64 (k : Nat)) (.int .i64 d) (.int .i64 h) (.int .i64 i) (.int .i64 s) 75
      rw [hW]
      clear hW
      refine (H1 _).out.mono ?_
      rintro e w1 ⟨rfl, g1⟩
      obtain ⟨_, _, _, _, c3, c4, c5⟩ := x.grew g1
      go_wp2_with fail
      go_ret2
      exact ⟨rfl, g0.trans g1⟩

end Go.Proofs.YtnhigfkhdmkoeaaGreatDoor

namespace Go.Proofs.YtnhigfkhdmkoeaaGreatDoor
open Go.RowKit
set_option linter.unusedVariables false

/-- A message. -/
structure Mg where
  kind : Nat := 0
  utc : Bool := false
  sec : Int := 0
  leap : Bool := false
  cycle : Nat := 0
  next : Bool := false
def Mg.cells (m : Mg) : Array Value := #[.int .u8 (m.kind : Nat), .bool m.utc, .int .i64 m.sec, .bool m.leap, .int .i64 (m.cycle : Nat), .bool m.next]
def Mg.value (m : Mg) : Value := .agg m.cells
/-- What a call tells: a message, or none. -/
def mgAns (r : Option Mg) : Value := .tuple #[(r.getD {}).value, .bool r.isSome]
/-- Is there such a minute? -/
def minuteOk (y m d h i : Int) : Bool := decide (1 ≤ d ∧ d ≤ lenOf y m) && isTm h i 0
def minuteAt (y m d h i : Int) : Int := (base y + cum y (m.toNat - 1) + d - 1) * 86400 + (h * 3600 + i * 60)
/-- The message of a UTC second. -/
def utcM (kind cyc : Nat) (y m d h i s : Int) : Option Mg :=
  if y < 1980 ∨ s < 0 ∨ 60 < s ∨ minuteOk y m d h i = false then none
  else some { kind := kind, utc := true, sec := minuteAt y m d h i + (if s = 60 then 59 else s), leap := decide (s = 60), cycle := cyc }
/-- The message of a GPS second. -/
def gpsM (kind cyc : Nat) (nx : Bool) (week ms : Int) : Option Mg :=
  if ms < 0 ∨ 604800000 ≤ ms ∨ ms % 1000 ≠ 0 then none else some { kind := kind, sec := week * 604800 + ms / 1000, cycle := cyc, next := nx }
/-- A message with its kind, its cycle, and whether it is the next one's. -/
def withM (kind cyc : Nat) (nx : Bool) (r : Option Mg) : Option Mg := r.map fun m => { m with kind := kind, cycle := cyc, next := nx }
theorem utcM_with (kind cyc : Nat) (y m d h i s : Int) : withM kind cyc false (utcM 0 0 y m d h i s) = utcM kind cyc y m d h i s := by
  unfold utcM
  split <;> rfl
theorem gpsM_with (kind cyc : Nat) (nx : Bool) (week ms : Int) : withM kind cyc nx (gpsM 0 0 false week ms) = gpsM kind cyc nx week ms := by
  unfold gpsM
  split <;> rfl
/-- What a moment's minute is. -/
theorem minute_bounds {y m d h i : Int} (hy : 1980 ≤ y) (hok : minuteOk y m d h i = true) : 0 ≤ minuteAt y m d h i ∧ minuteAt y m d h i ≤ 20000000000 := by
  unfold minuteOk at hok
  simp only [Bool.and_eq_true, decide_eq_true_eq] at hok
  obtain ⟨⟨h1, h2⟩, h3⟩ := hok
  unfold isTm at h3
  simp only [decide_eq_true_eq] at h3
  have hym : (1900 ≤ y ∧ y ≤ 2199) ∧ 1 ≤ m ∧ m ≤ 12 := by
    apply Classical.byContradiction
    intro hc
    have : lenOf y m = 0 := by unfold lenOf; rw [if_neg hc]
    omega
  obtain ⟨k, rfl⟩ := Int.eq_ofNat_of_zero_le (show 0 ≤ m by omega)
  have hl := len_le y k
  have hB := base_ge y (by omega); have hB' := base_le y (by omega); have hC := cum_le y (k - 1)
  unfold minuteAt
  rw [Int.toNat_natCast]
  omega
theorem civ_minute (y m d h i : Int) (w : World) (hy : -9223372036854775808 ≤ y ∧ y ≤ 9223372036854775807) (hm : -9223372036854775808 ≤ m ∧ m ≤ 9223372036854775807) (hd : -9223372036854775808 ≤ d ∧ d ≤ 9223372036854775807)
    (hh : -9223372036854775808 ≤ h ∧ h ≤ 9223372036854775807) (hi : -9223372036854775808 ≤ i ∧ i ≤ 9223372036854775807) (ht : Tab w) (ok : Bool) (hok : minuteOk y m d h i = ok) :
    Calls Tryz.prog 79 #[moment y m d h i 0] w fun e w' => e = .returned (.tuple #[.int .i64 (if ok then minuteAt y m d h i else 0), .int .i64 (if ok then 0 else 2)]) ∧ Grew w w' := by
  cases ok with
  | false =>
    refine civ_Second_bad y m d h i 0 w hy hm hd hh hi (by omega) ht ?_
    unfold minuteOk at hok
    by_cases q : isTm h i 0 = false
    · exact .inr q
    · left
      simp at q
      rw [q, Bool.and_true] at hok
      have := of_decide_eq_false hok
      omega
  | true =>
    unfold minuteOk at hok
    simp only [Bool.and_eq_true, decide_eq_true_eq] at hok
    obtain ⟨⟨h1, h2⟩, h3⟩ := hok
    unfold isTm at h3
    simp only [decide_eq_true_eq] at h3
    have hym : (1900 ≤ y ∧ y ≤ 2199) ∧ 1 ≤ m ∧ m ≤ 12 := by
      apply Classical.byContradiction
      intro hc
      have : lenOf y m = 0 := by unfold lenOf; rw [if_neg hc]
      omega
    obtain ⟨k, rfl⟩ := Int.eq_ofNat_of_zero_le (show 0 ≤ m by omega)
    refine (civ_Second y k d h i 0 w hym.1 (by omega) ⟨h1, h2⟩ ⟨h3.1, h3.2.1⟩ ⟨h3.2.2.1, h3.2.2.2.1⟩ (by omega) ht).mono ?_
    rintro e w' ⟨rfl, g⟩
    refine ⟨?_, g⟩
    unfold minuteAt
    rw [Int.toNat_natCast, Int.add_zero]
    rfl

-- [GPS
set_option maxRecDepth 100000 in
set_option maxHeartbeats 1000000 in
theorem msg_ofGPS (n ms : Int) (w : World) (hn : 0 ≤ n ∧ n ≤ 65535) (hm : -9223372036854775808 ≤ ms ∧ ms ≤ 9223372036854775807) :
    Calls Tryz.prog 59 #[.int .i64 n, .int .i64 ms] w fun e w' => e = .returned (mgAns (gpsM 0 0 false n ms)) ∧ Grew w w' := by
  by_cases h1 : ms < 0
  · have hz : gpsM 0 0 false n ms = none := by unfold gpsM; rw [if_pos (.inl h1)]
    rw [hz]
    clear hz
    go_enter Tryz.func59, Tryz.ntmps59
    go_wp2_with fail
    refine bodyPost_ret (by simp [results, Tryz.results59, go_sem]; try rfl) rfl ?_
    exact ⟨rfl, by repeat (first | exact Grew.refl _ | apply Grew.drew | apply Grew.alloc)⟩
  · by_cases h2 : 604800000 ≤ ms
    · have hz : gpsM 0 0 false n ms = none := by unfold gpsM; rw [if_pos (.inr (.inl h2))]
      rw [hz]
      clear hz
      go_enter Tryz.func59, Tryz.ntmps59
      go_wp2_with fail
      refine bodyPost_ret (by simp [results, Tryz.results59, go_sem]; try rfl) rfl ?_
      exact ⟨rfl, by repeat (first | exact Grew.refl _ | apply Grew.drew | apply Grew.alloc)⟩
    · by_cases h3 : ms % 1000 = 0
      · have hz : gpsM 0 0 false n ms = some { sec := n * 604800 + ms / 1000 } := by unfold gpsM; rw [if_neg (by omega)]
        rw [hz]
        clear hz
        have hw : 0 ≤ ms / 1000 ∧ ms / 1000 < 604800 := by omega
        go_enter Tryz.func59, Tryz.ntmps59
        go_wp2_with fail
        refine bodyPost_ret (by simp [results, Tryz.results59, go_sem]; try rfl) rfl ?_
        exact ⟨rfl, by repeat (first | exact Grew.refl _ | apply Grew.drew | apply Grew.alloc)⟩
      · have hz : gpsM 0 0 false n ms = none := by unfold gpsM; rw [if_pos (.inr (.inr h3))]
        rw [hz]
        clear hz
        go_enter Tryz.func59, Tryz.ntmps59
        go_wp2_with fail
        refine bodyPost_ret (by simp [results, Tryz.results59, go_sem]; try rfl) rfl ?_
        exact ⟨rfl, by repeat (first | exact Grew.refl _ | apply Grew.drew | apply Grew.alloc)⟩
-- GPS]
-- [UTC
theorem utc_worlds (w : World) (C : Array Value) (a b c d e f : Value) (E T : TypeId) : ∃ W, (w.alloc (.cells C E)).alloc (.cells #[a, b, c, d, e, f] T) = W ∧ Grew w W ∧ Six W (w.heap.size + 1) a b c d e f ∧ Wet W (w.heap.size + 1) := by
  refine ⟨_, rfl, ((Grew.refl w).alloc _).alloc _, ⟨by simp, ?_, ?_, ?_, ?_, ?_, ?_⟩, ?_, ?_, ?_, ?_, ?_, ?_⟩ <;> simp [go_sem]
set_option maxRecDepth 100000 in
set_option maxHeartbeats 2000000 in
theorem msg_ofUTC (y m d h i s : Int) (w : World) (hy : -9223372036854775808 ≤ y ∧ y ≤ 9223372036854775807) (hm : -9223372036854775808 ≤ m ∧ m ≤ 9223372036854775807) (hd : -9223372036854775808 ≤ d ∧ d ≤ 9223372036854775807)
    (hh : -9223372036854775808 ≤ h ∧ h ≤ 9223372036854775807) (hi : -9223372036854775808 ≤ i ∧ i ≤ 9223372036854775807) (hs : -9223372036854775808 ≤ s ∧ s ≤ 9223372036854775807) (ht : Tab w) :
    Calls Tryz.prog 57 #[moment y m d h i s] w fun e w' => e = .returned (mgAns (utcM 0 0 y m d h i s)) ∧ Grew w w' := by
  by_cases hb : y < 1980 ∨ s < 0 ∨ 60 < s
  · have hz : utcM 0 0 y m d h i s = none := by
      unfold utcM
      rw [if_pos (by rcases hb with q | q | q; exact .inl q; exact .inr (.inl q); exact .inr (.inr (.inl q)))]
    rw [hz]
    clear hz ht hm hd hh hi
    have hb : y < 1980 ∨ (1980 ≤ y ∧ s < 0) ∨ (1980 ≤ y ∧ 0 ≤ s ∧ 60 < s) := by omega
    rcases hb with hb | hb | hb
    all_goals
      go_enter Tryz.func57, Tryz.ntmps57
      go_wp2_with fail
      refine bodyPost_ret (by simp [results, Tryz.results57, go_sem]; try rfl) rfl ?_
      exact ⟨rfl, by repeat (first | exact Grew.refl _ | apply Grew.drew | apply Grew.alloc)⟩
  · obtain ⟨ok, hok⟩ : ∃ ok, minuteOk y m d h i = ok := ⟨_, rfl⟩
    have HC := fun w ht => Lib.hid (civ_minute y m d h i w hy hm hd hh hi ht ok hok)
    have HT := Lib.hid ht
    have hb1 : 1980 ≤ y ∧ 0 ≤ s ∧ s ≤ 60 := by omega
    cases ok with
    | false =>
      have hz : utcM 0 0 y m d h i s = none := by
        unfold utcM
        rw [if_pos (.inr (.inr (.inr hok)))]
      rw [hz]
      clear hz ht hm hd hh hi hok
      go_enter Tryz.func57, Tryz.ntmps57
      go_wp2_with fail
      obtain ⟨W, hW, g0, x, f⟩ := utc_worlds w #[.int .i64 y, .int .i64 m, .int .i64 d, .int .i64 h, .int .i64 i, .int .i64 0] (.int .u8 0) (.bool false) (.int .i64 0) (.bool false) (.int .i64 0) (.bool false) 75 27
      rw [hW]
      clear hW
      refine (HC _ (HT.out.grew g0)).out.mono ?_
      rintro e w1 ⟨rfl, g1⟩
      obtain ⟨x0, c0, c1, c2, c3, c4, c5⟩ := x.grew g1
      obtain ⟨f0, f1, f2, f3, f4, f5⟩ := f.grew x.1 g1
      go_wp2_with fail
      refine bodyPost_ret (by simp [results, Tryz.results57, go_sem, c0, c1, c2, c3, c4, c5]; try rfl) rfl ?_
      exact ⟨rfl, six_put _ (g0.trans g1) (by omega) _ _ _ _ _ _⟩
    | true =>
      have hz : utcM 0 0 y m d h i s = some { utc := true, sec := minuteAt y m d h i + (if s = 60 then 59 else s), leap := decide (s = 60) } := by
        unfold utcM
        rw [if_neg (by simp [hok]; omega)]
      obtain ⟨hM1, hM2⟩ := minute_bounds hb1.1 hok
      rw [hz]
      clear hz ht hm hd hh hi hok
      rw [if_pos rfl] at HC
      generalize minuteAt y m d h i = M at *
      by_cases h60 : s = 60
      · subst h60
        go_enter Tryz.func57, Tryz.ntmps57
        go_wp2_with fail
        obtain ⟨W, hW, g0, x, f⟩ := utc_worlds w #[.int .i64 y, .int .i64 m, .int .i64 d, .int .i64 h, .int .i64 i, .int .i64 0] (.int .u8 0) (.bool false) (.int .i64 0) (.bool false) (.int .i64 0) (.bool false) 75 27
        rw [hW]
        clear hW
        refine (HC _ (HT.out.grew g0)).out.mono ?_
        rintro e w1 ⟨rfl, g1⟩
        obtain ⟨x0, c0, c1, c2, c3, c4, c5⟩ := x.grew g1
        obtain ⟨f0, f1, f2, f3, f4, f5⟩ := f.grew x.1 g1
        go_wp2_with fail
        refine bodyPost_ret (by simp [results, Tryz.results57, go_sem, c0, c1, c2, c3, c4, c5]; try rfl) rfl ?_
        exact ⟨rfl, six_put _ (g0.trans g1) (by omega) _ _ _ _ _ _⟩
      · have h60' : (s == 60) = false := by simpa using h60
        rw [decide_eq_false h60, if_neg h60]
        have hle : s ≤ 59 := by omega
        go_enter Tryz.func57, Tryz.ntmps57
        go_wp2_with fail
        obtain ⟨W, hW, g0, x, f⟩ := utc_worlds w #[.int .i64 y, .int .i64 m, .int .i64 d, .int .i64 h, .int .i64 i, .int .i64 0] (.int .u8 0) (.bool false) (.int .i64 0) (.bool false) (.int .i64 0) (.bool false) 75 27
        rw [hW]
        clear hW
        refine (HC _ (HT.out.grew g0)).out.mono ?_
        rintro e w1 ⟨rfl, g1⟩
        obtain ⟨x0, c0, c1, c2, c3, c4, c5⟩ := x.grew g1
        obtain ⟨f0, f1, f2, f3, f4, f5⟩ := f.grew x.1 g1
        go_wp2_with fail
        refine bodyPost_ret (by simp [results, Tryz.results57, go_sem, c0, c1, c2, c3, c4, c5]; try rfl) rfl ?_
        exact ⟨rfl, six_put _ (g0.trans g1) (by omega) _ _ _ _ _ _⟩
-- UTC]
end Go.Proofs.YtnhigfkhdmkoeaaGreatDoor

namespace Go.Proofs.YtnhigfkhdmkoeaaGreatDoor
open Go.RowKit
set_option linter.unusedVariables false

/-- What an operation leaves: a value; the map (0), as long as it is not looked up; the variable (1). -/
def OfS (W : World) (lk st : Nat) (K Z : Array Value) (s : Value ⊕ Nat) (L : Nat → Bool) (w : World) (v : Value) : Prop :=
  match s with
  | .inl x => v = x
  | .inr 0 => L lk = false → MKindsAt w v
  | .inr 1 => ∃ p, v = .pointer (some ⟨p, 0, none⟩) ∧ W.heap.size ≤ p ∧ p < w.heap.size ∧ w.heap[p]? = some (.cells (if L st = true then K else Z) 50)
  | .inr _ => True
theorem OfS.also {W : World} {lk st : Nat} {K Z : Array Value} {s : Value ⊕ Nat} {L : Nat → Bool} {j : Nat} {w w' : World} {v : Value} (h : OfS W lk st K Z s L w v) (g : Grew w w') (hj : j ≠ st) : OfS W lk st K Z s (also L j) w' v := by
  unfold OfS at h ⊢
  split at h
  · exact h
  · intro hl
    refine (h ?_).grew g
    unfold Proofs.YtnhigfkhdmkoeaaGreatDoor.also at hl
    simp only [Bool.or_eq_false_iff] at hl
    exact hl.2
  · obtain ⟨p, e, h1, h2, h3⟩ := h
    refine ⟨p, e, h1, Nat.lt_of_lt_of_le h2 g.size, ?_⟩
    rw [also_ne (by omega)]
    exact (Below.block g p h2).trans h3
  · trivial
theorem heap_setCell_cellsW {w : World} {b k : Nat} {a : Array Value} {t : TypeId} (h : w.heap[b]? = some (.cells a t)) (v : Value) : (w.setCell ⟨b, k, none⟩ v).heap[b]? = some (.cells (a.setIfInBounds k v) t) := by
  show (w.heap.modify b _)[b]? = _
  rw [Array.getElem?_modify, if_pos rfl, h]
  rfl
theorem os_of {P : Program} {Q : Exit → Act → World → Prop} {o : Oper} {a : Act} {w W : World} {L : Nat → Bool} {ops : Array Oper} {i lk st : Nat} {K Z : Array Value} {sh : List (Value ⊕ Nat)}
    (hd : ∀ j d, L j = true → writes ops j d = true → OfS W lk st K Z (sh.getD j (.inr 4)) L w (a.tmps[d]?.getD undef)) (g : Grew W w) (hi : i ≠ st)
    (h : o.wp P a w (fun a' w'' => ∃ v, a' = a.put o.dst v ∧ OfS W lk st K Z (sh.getD i (.inr 4)) (also L i) w'' v ∧ Grew w w'') Q) :
    o.wp P a w (fun a' w' => ∃ v, a' = a.put o.dst v ∧ (∀ d, o.dst = some d → OfS W lk st K Z (sh.getD i (.inr 4)) (also L i) w' v) ∧ (∀ j d, L j = true → writes ops j d = true → OfS W lk st K Z (sh.getD j (.inr 4)) (also L i) w' (a.tmps[d]?.getD undef)) ∧ Grew W w') Q :=
  Oper.wp_mono (fun a' w' ⟨v, h1, h2, h3⟩ => ⟨v, h1, fun _ _ => h2, fun j d hl hw => (hd j d hl hw).also h3 hi, g.trans h3⟩) h
theorem os_store {Q : Exit → Act → World → Prop} {o : Oper} {a : Act} {w W : World} {L : Nat → Bool} {ops : Array Oper} {i lk t u : Nat} {K Z : Array Value} {sh : List (Value ⊕ Nat)}
    (hop : o.op = .store 50 (.tmp u) (.tmp t)) (hdst : o.dst = none)
    (hd : ∀ j d, L j = true → writes ops j d = true → OfS W lk i K Z (sh.getD j (.inr 4)) L w (a.tmps[d]?.getD undef)) (g : Grew W w)
    (h4 : OfS W lk i K Z (.inr 1) L w (a.tmps[u]?.getD undef)) (ht : a.tmps[t]?.getD undef = .agg K) (hL : L i = false) (hlk : L lk = true)
    (hI : (Tryz.prog.info? 50).map (·.size) = some K.size) (hZ : Z.size = K.size) (hO : K.all (·.oneCell') = true)
    (hone : ((List.range ops.size).all fun j => match sh.getD j (.inr 4) with | .inr 1 => writes ops j u | _ => true) = true) :
    o.wp Tryz.prog a w (fun a' w' => ∃ v, a' = a.put o.dst v ∧ (∀ d, o.dst = some d → OfS W lk i K Z (sh.getD i (.inr 4)) (also L i) w' v) ∧ (∀ j d, L j = true → writes ops j d = true → OfS W lk i K Z (sh.getD j (.inr 4)) (also L i) w' (a.tmps[d]?.getD undef)) ∧ Grew W w') Q := by
  obtain ⟨p, e4, hWp, hpl, h4⟩ := h4
  rw [hL, if_neg (by decide)] at h4
  refine wp_store_row 50 (.tmp u) (.tmp t) hop p K (by simpa [go_sem] using e4) (by rw [show a.eval (.tmp t) = a.tmps[t]?.getD undef by simp [go_sem], ht]) 50 Z h4 hI hZ hO ?_
  have hg1 : Grew W (w.setRow p K) := Far.grew (far_setRow w p K) g (fun k hk => by subst hk; exact hWp)
  refine ⟨undef, rfl, fun d hd' => (by rw [hdst] at hd'; cases hd'), fun j d hl hwr => ?_, hg1⟩
  have h := hd j d hl hwr
  have hjs : j < ops.size := by
    unfold writes at hwr
    split at hwr
    · cases hwr
    · exact (Array.getElem?_eq_some_iff.1 ‹_›).1
  have h1 := List.all_eq_true.1 hone j (List.mem_range.2 hjs)
  cases hs : sh.getD j (.inr 4) with
  | inl x => rw [hs] at h; exact h
  | inr n =>
    rw [hs] at h h1
    unfold OfS at h ⊢
    match n, h, h1 with
    | 0, h, _ =>
      intro hl2
      unfold Proofs.YtnhigfkhdmkoeaaGreatDoor.also at hl2
      rw [hlk] at hl2
      simp at hl2
    | 1, h, h1 =>
      have : d = u := by
        unfold writes at hwr h1
        cases hq : ops[j]? with
        | none => rw [hq] at hwr; cases hwr
        | some o' =>
          rw [hq] at hwr h1
          simp only [beq_iff_eq] at hwr h1
          exact Option.some.inj (hwr.symm.trans h1)
      subst this
      refine ⟨p, e4, hWp, by simpa [World.setRow] using hpl, ?_⟩
      rw [if_pos (by unfold Proofs.YtnhigfkhdmkoeaaGreatDoor.also; simp)]
      exact setRow_heap w p Z K _ (0, 0) h4
    | _ + 2, _, _ => trivial
noncomputable def mofOps : Array Oper := (Tryz.f6.body.map (regOps 4)).getD #[]
noncomputable def mofCode : Code := (Tryz.f6.body.bind (regCode 4)).getD .skip
def mofSh (a b c : Nat) (K : Array Value) (hit : Bool) : List (Value ⊕ Nat) := [.inr 0, .inl (.agg (keyC a b c)), .inl (.tuple #[.agg K, .bool hit]), .inl (.tuple #[.agg K, .bool hit]), .inl (.agg K), .inl (.bool hit), .inr 1, .inr 4, .inl (.bool hit)]
def kindZ : Array Value := #[.int .u8 0, .int .i64 0, .bool false, .nilFunc, .nilFunc]
set_option maxRecDepth 1000000 in
set_option maxHeartbeats 8000000 in
theorem mof_look (p4 a b c : Nat) (K : Array Value) (hit : Bool) (W : World) (hk4 : Hid (W.heap[p4]? = some (.cells (keyC a b c) 38)))
    (hlook : Hid (∀ w v, MKindsAt w v → (Instr.lookup 52 v (.agg (keyC a b c)) true).run Tryz.prog w = .ok (.tuple #[.agg K, .bool hit]) w))
    (hI : Hid ((Tryz.prog.info? 50).map (·.size) = some K.size)) (hZ : Hid (kindZ.size = K.size)) (hO : Hid (K.all (·.oneCell') = true)) (K0 : Act → World → Prop) (t0 t1 t2 t3 t5 t6 t7 t8 t9 t10 t11 t12 t13 t14 t15 t16 t17 t18 t19 t20 t21 t22 t23 t24 t25 t26 t27 t28 t29 t30 t31 t32 t33 t34 t35 t36 t37 t38 t39 t40 t41 t42 t43 t44 t45 t46 t47 t48 t49 t50 t51 t52 t53 : Value)
    (post : ∀ (p : Nat) (w' : World) (s18 s19 s20 s21 s22 s23 : Value), W.heap.size ≤ p → w'.heap[p]? = some (.cells K 50) → Grew W w' → K0 ⟨#[t0, t1, t2, t3, .pointer (some ⟨p4, 0, none⟩), t5, .bool hit, .pointer (some ⟨p, 0, none⟩), t8, t9, t10, t11, t12, t13, t14, t15, t16, t17, s18, s19, s20, s21, s22, s23, t24, t25, t26, t27, t28, t29, t30, t31, t32, t33, t34, t35, t36, t37, t38, t39, t40, t41, t42, t43, t44, t45, t46, t47, t48, t49, t50, t51, t52, t53], []⟩ w') :
    Code.wp Tryz.prog mofCode (Exit.then K0 fun _ _ _ => False) ⟨#[t0, t1, t2, t3, .pointer (some ⟨p4, 0, none⟩), t5, t6, t7, t8, t9, t10, t11, t12, t13, t14, t15, t16, t17, t18, t19, t20, t21, t22, t23, t24, t25, t26, t27, t28, t29, t30, t31, t32, t33, t34, t35, t36, t37, t38, t39, t40, t41, t42, t43, t44, t45, t46, t47, t48, t49, t50, t51, t52, t53], []⟩ W := by
  conv => arg 2; whnf
  refine wp_region_fill (n := 54) (ops := mofOps) (by kernel_rfl) (fun L i w' v => OfS W 2 7 K kindZ ((mofSh a b c K hit).getD i (.inr 4)) L w' v) ?_ ?_ ?_ ?_ ?_
  case refine_1 => kernel_rfl
  case refine_2 => kernel_rfl
  case refine_3 => rfl
  case refine_5 =>
    intro L c0 w' hL hdef hsz ho hd g
    obtain ⟨tm, df⟩ := c0
    simp only at hdef hsz ho hd
    subst hdef
    obtain ⟨p, e7, hWp, _, h7⟩ := hd 6 7 (by kernel_rfl)
    rw [if_pos (hL 7 (of_decide_eq_true (by kernel_rfl)))] at h7
    have e6 : tm[6]?.getD undef = .bool hit := hd 8 6 (by kernel_rfl)
    have f0 : tm[0]?.getD undef = t0 := ho 0 (by kernel_rfl)
    have f1 : tm[1]?.getD undef = t1 := ho 1 (by kernel_rfl)
    have f2 : tm[2]?.getD undef = t2 := ho 2 (by kernel_rfl)
    have f3 : tm[3]?.getD undef = t3 := ho 3 (by kernel_rfl)
    have f4 : tm[4]?.getD undef = .pointer (some ⟨p4, 0, none⟩) := ho 4 (by kernel_rfl)
    have f5 : tm[5]?.getD undef = t5 := ho 5 (by kernel_rfl)
    have f8 : tm[8]?.getD undef = t8 := ho 8 (by kernel_rfl)
    have f9 : tm[9]?.getD undef = t9 := ho 9 (by kernel_rfl)
    have f10 : tm[10]?.getD undef = t10 := ho 10 (by kernel_rfl)
    have f11 : tm[11]?.getD undef = t11 := ho 11 (by kernel_rfl)
    have f12 : tm[12]?.getD undef = t12 := ho 12 (by kernel_rfl)
    have f13 : tm[13]?.getD undef = t13 := ho 13 (by kernel_rfl)
    have f14 : tm[14]?.getD undef = t14 := ho 14 (by kernel_rfl)
    have f15 : tm[15]?.getD undef = t15 := ho 15 (by kernel_rfl)
    have f16 : tm[16]?.getD undef = t16 := ho 16 (by kernel_rfl)
    have f17 : tm[17]?.getD undef = t17 := ho 17 (by kernel_rfl)
    have f24 : tm[24]?.getD undef = t24 := ho 24 (by kernel_rfl)
    have f25 : tm[25]?.getD undef = t25 := ho 25 (by kernel_rfl)
    have f26 : tm[26]?.getD undef = t26 := ho 26 (by kernel_rfl)
    have f27 : tm[27]?.getD undef = t27 := ho 27 (by kernel_rfl)
    have f28 : tm[28]?.getD undef = t28 := ho 28 (by kernel_rfl)
    have f29 : tm[29]?.getD undef = t29 := ho 29 (by kernel_rfl)
    have f30 : tm[30]?.getD undef = t30 := ho 30 (by kernel_rfl)
    have f31 : tm[31]?.getD undef = t31 := ho 31 (by kernel_rfl)
    have f32 : tm[32]?.getD undef = t32 := ho 32 (by kernel_rfl)
    have f33 : tm[33]?.getD undef = t33 := ho 33 (by kernel_rfl)
    have f34 : tm[34]?.getD undef = t34 := ho 34 (by kernel_rfl)
    have f35 : tm[35]?.getD undef = t35 := ho 35 (by kernel_rfl)
    have f36 : tm[36]?.getD undef = t36 := ho 36 (by kernel_rfl)
    have f37 : tm[37]?.getD undef = t37 := ho 37 (by kernel_rfl)
    have f38 : tm[38]?.getD undef = t38 := ho 38 (by kernel_rfl)
    have f39 : tm[39]?.getD undef = t39 := ho 39 (by kernel_rfl)
    have f40 : tm[40]?.getD undef = t40 := ho 40 (by kernel_rfl)
    have f41 : tm[41]?.getD undef = t41 := ho 41 (by kernel_rfl)
    have f42 : tm[42]?.getD undef = t42 := ho 42 (by kernel_rfl)
    have f43 : tm[43]?.getD undef = t43 := ho 43 (by kernel_rfl)
    have f44 : tm[44]?.getD undef = t44 := ho 44 (by kernel_rfl)
    have f45 : tm[45]?.getD undef = t45 := ho 45 (by kernel_rfl)
    have f46 : tm[46]?.getD undef = t46 := ho 46 (by kernel_rfl)
    have f47 : tm[47]?.getD undef = t47 := ho 47 (by kernel_rfl)
    have f48 : tm[48]?.getD undef = t48 := ho 48 (by kernel_rfl)
    have f49 : tm[49]?.getD undef = t49 := ho 49 (by kernel_rfl)
    have f50 : tm[50]?.getD undef = t50 := ho 50 (by kernel_rfl)
    have f51 : tm[51]?.getD undef = t51 := ho 51 (by kernel_rfl)
    have f52 : tm[52]?.getD undef = t52 := ho 52 (by kernel_rfl)
    have f53 : tm[53]?.getD undef = t53 := ho 53 (by kernel_rfl)
    have e : tm = #[tm[0]?.getD undef, tm[1]?.getD undef, tm[2]?.getD undef, tm[3]?.getD undef, tm[4]?.getD undef, tm[5]?.getD undef, tm[6]?.getD undef, tm[7]?.getD undef, tm[8]?.getD undef, tm[9]?.getD undef, tm[10]?.getD undef, tm[11]?.getD undef, tm[12]?.getD undef, tm[13]?.getD undef, tm[14]?.getD undef, tm[15]?.getD undef, tm[16]?.getD undef, tm[17]?.getD undef, tm[18]?.getD undef, tm[19]?.getD undef, tm[20]?.getD undef, tm[21]?.getD undef, tm[22]?.getD undef, tm[23]?.getD undef, tm[24]?.getD undef, tm[25]?.getD undef, tm[26]?.getD undef, tm[27]?.getD undef, tm[28]?.getD undef, tm[29]?.getD undef, tm[30]?.getD undef, tm[31]?.getD undef, tm[32]?.getD undef, tm[33]?.getD undef, tm[34]?.getD undef, tm[35]?.getD undef, tm[36]?.getD undef, tm[37]?.getD undef, tm[38]?.getD undef, tm[39]?.getD undef, tm[40]?.getD undef, tm[41]?.getD undef, tm[42]?.getD undef, tm[43]?.getD undef, tm[44]?.getD undef, tm[45]?.getD undef, tm[46]?.getD undef, tm[47]?.getD undef, tm[48]?.getD undef, tm[49]?.getD undef, tm[50]?.getD undef, tm[51]?.getD undef, tm[52]?.getD undef, tm[53]?.getD undef] := (arr_getS tm undef hsz).trans (by kernel_rfl)
    rw [e7, e6, f0, f1, f2, f3, f4, f5, f8, f9, f10, f11, f12, f13, f14, f15, f16, f17, f24, f25, f26, f27, f28, f29, f30, f31, f32, f33, f34, f35, f36, f37, f38, f39, f40, f41, f42, f43, f44, f45, f46, f47, f48, f49, f50, f51, f52, f53] at e
    rw [e]
    exact post p w' (tm[18]?.getD undef) (tm[19]?.getD undef) (tm[20]?.getD undef) (tm[21]?.getD undef) (tm[22]?.getD undef) (tm[23]?.getD undef) hWp h7 g
  simp only [AllFrom]
  refine ⟨?_, ?_, ?_, ?_, ?_, ?_, ?_, ?_, ?_, trivial⟩
  · intro L c0 w' hL ho hw hc' hd g
    exact os_of hd g (by decide) (each_call (f := 10) (args := #[]) (by simp [go_sem]) ((msg_kinds w').mono (by rintro e w'' ⟨v, rfl, hk, g'⟩; exact ⟨_, rfl, fun _ => hk, g'⟩)))
  · intro L c0 w' hL ho hw hc' hd g
    have e0 : c0.tmps[4]?.getD undef = .pointer (some ⟨p4, 0, none⟩) := ho 4 (by kernel_rfl)
    have hx := (Below.block g p4 (Array.getElem?_eq_some_iff.1 hk4.out).1).trans hk4.out
    exact os_of hd g (by decide) (each_value (v := .agg (keyC a b c)) (exec_load_whole 38 _ rfl p4 (by simpa [go_sem] using e0) _ _ _ hx Tryz.underlying38 rfl (by kernel_rfl)) rfl)
  · intro L c0 w' hL ho hw hc' hd g
    have hk : MKindsAt w' (c0.tmps[19]?.getD undef) := hd 0 19 (hw 0 (by kernel_rfl)) (by kernel_rfl) hL
    have e2 : c0.eval (.tmp 20) = .agg (keyC a b c) := by
      have : c0.tmps[20]?.getD undef = .agg (keyC a b c) := hd 1 20 (hw 1 (by kernel_rfl)) (by kernel_rfl)
      simpa [go_sem] using this
    have e1 : c0.eval (.tmp 19) = c0.tmps[19]?.getD undef := by simp [go_sem]
    have hrun := hlook.out w' _ hk
    refine os_of hd g (by decide) (each_value (v := .tuple #[.agg K, .bool hit]) ?_ rfl)
    simp only [execOp, e1, e2, Sem.run_bind, hrun, Result.andThen_ok, Sem.run_pure]
  · intro L c0 w' hL ho hw hc' hd g
    have e1 : c0.tmps[21]?.getD undef = .tuple #[.agg K, .bool hit] := hd 2 21 (hw 2 (by kernel_rfl)) (by kernel_rfl)
    refine os_of hd g (by decide) (each_value (v := .tuple #[.agg K, .bool hit]) ?_ rfl)
    simp [execOp, go_sem, e1]
  · intro L c0 w' hL ho hw hc' hd g
    have e1 : c0.tmps[18]?.getD undef = .tuple #[.agg K, .bool hit] := hd 3 18 (hw 3 (by kernel_rfl)) (by kernel_rfl)
    refine os_of hd g (by decide) (each_value (v := .agg K) ?_ rfl)
    simp [execOp, go_sem, e1]
  · intro L c0 w' hL ho hw hc' hd g
    have e1 : c0.tmps[18]?.getD undef = .tuple #[.agg K, .bool hit] := hd 3 18 (hw 3 (by kernel_rfl)) (by kernel_rfl)
    refine os_of hd g (by decide) (each_value (v := .bool hit) ?_ rfl)
    simp [execOp, go_sem, e1]
  · intro L c0 w' hL ho hw hc' hd g
    have hn : L 7 = false := by
      cases q : L 7 with
      | false => rfl
      | true => have := hc' 7 6 q (by kernel_rfl); rw [hL] at this; cases this
    refine os_of hd g (by decide) (each_made (v := .pointer (some ⟨w'.heap.size, 0, none⟩)) (w1 := w'.alloc (.cells kindZ 50)) ?_ ((Grew.refl _).alloc _) ⟨_, rfl, g.size, by simp, ?_⟩)
    · simp [execOp, go_sem, kindZ]
    · rw [also_ne (by decide), hn, if_neg (by decide)]
      exact heap_alloc_new _ _
  · intro L c0 w' hL ho hw hc' hd g
    exact os_store (ops := mofOps) (sh := (mofSh a b c K hit)) (u := 7) (t := 22) rfl rfl hd g (hd 6 7 (hw 6 (by kernel_rfl)) (by kernel_rfl)) (hd 4 22 (hw 4 (by kernel_rfl)) (by kernel_rfl)) hL (hc' 3 2 (hc' 4 3 (hw 4 (by kernel_rfl)) (by kernel_rfl)) (by kernel_rfl)) hI.out hZ.out hO.out (by kernel_rfl)
  · intro L c0 w' hL ho hw hc' hd g
    have e1 : c0.tmps[23]?.getD undef = .bool hit := hd 5 23 (hw 5 (by kernel_rfl)) (by kernel_rfl)
    refine os_of hd g (by decide) (each_value (v := .bool hit) ?_ rfl)
    simp [execOp, go_sem, e1]
/-- The message's variable, whatever was stored. -/
def mgMk (num cyc : Nat) (nx : Bool) (m : Mg) (b1 b2 b3 : Bool) : Array Value := #[.int .u8 ((if b1 then num else m.kind : Nat) : Int), .bool m.utc, .int .i64 m.sec, .bool m.leap, .int .i64 ((if b2 then cyc else m.cycle : Nat) : Int), .bool (if b3 then nx else m.next)]
def GA (W : World) (p8 num cyc : Nat) (nx : Bool) (m : Mg) (L : Nat → Bool) (w : World) : Prop := Far (fun k => k = p8) W w ∧ w.heap[p8]? = some (.cells (mgMk num cyc nx m (L 7) (L 9) (L 11)) 27)
theorem GA.also {W w : World} {p8 num cyc i : Nat} {nx : Bool} {m : Mg} {L : Nat → Bool} (h : GA W p8 num cyc nx m L w) (hi : (i != 7 && i != 9 && i != 11) = true) : GA W p8 num cyc nx m (also L i) w := by
  simp only [Bool.and_eq_true, bne_iff_ne] at hi
  refine ⟨h.1, ?_⟩
  rw [also_ne (Ne.symm hi.1.1), also_ne (Ne.symm hi.1.2), also_ne (Ne.symm hi.2)]
  exact h.2
section
variable {P : Program} {Q : Exit → Act → World → Prop} {o : Oper} {a : Act} {w W : World} {L : Nat → Bool} {ops : Array Oper} {i p8 num cyc : Nat} {nx : Bool} {m : Mg} {sh : List Value}
theorem ga_value (hd : ∀ j d, L j = true → writes ops j d = true → a.tmps[d]?.getD undef = sh.getD j undef) (hG : GA W p8 num cyc nx m L w) (hi : (i != 7 && i != 9 && i != 11) = true) (v : Value) (h : (execOp a.eval o).run P w = .ok (.value v) w) (hv : v = sh.getD i undef) :
    o.wp P a w (fun a' w' => ∃ v, a' = a.put o.dst v ∧ (∀ d, o.dst = some d → v = sh.getD i undef) ∧ (∀ j d, L j = true → writes ops j d = true → a.tmps[d]?.getD undef = sh.getD j undef) ∧ GA W p8 num cyc nx m (also L i) w') Q := by
  unfold Oper.wp
  rw [h]
  exact ⟨v, rfl, fun _ _ => hv, hd, hG.also hi⟩
theorem ga_store (hdst : o.dst = none) (hd : ∀ j d, L j = true → writes ops j d = true → a.tmps[d]?.getD undef = sh.getD j undef) (hG : GA W p8 num cyc nx m L w) (k : Nat) (v : Value) (h : (execOp a.eval o).run P w = .ok .skip (w.setCell ⟨p8, k, none⟩ v))
    (hm : (mgMk num cyc nx m (L 7) (L 9) (L 11)).setIfInBounds k v = mgMk num cyc nx m (also L i 7) (also L i 9) (also L i 11)) :
    o.wp P a w (fun a' w' => ∃ v, a' = a.put o.dst v ∧ (∀ d, o.dst = some d → v = sh.getD i undef) ∧ (∀ j d, L j = true → writes ops j d = true → a.tmps[d]?.getD undef = sh.getD j undef) ∧ GA W p8 num cyc nx m (also L i) w') Q := by
  unfold Oper.wp
  rw [h]
  refine ⟨undef, by rw [hdst], fun d hd' => (by rw [hdst] at hd'; cases hd'), hd, hG.1.setCell (p := ⟨p8, k, none⟩) rfl v, ?_⟩
  rw [← hm]
  exact heap_setCell_cellsW hG.2 v
end
noncomputable def motOps : Array Oper := (Tryz.f6.body.map (regOps 10)).getD #[]
noncomputable def motCode : Code := (Tryz.f6.body.bind (regCode 10)).getD .skip
def motSh (p7 p8 num cyc : Nat) (nx : Bool) : List Value := [.pointer (some ⟨p7, 0, none⟩), .int .u8 (num : Nat), .pointer (some ⟨p7, 1, none⟩), .int .i64 (cyc : Nat), .pointer (some ⟨p7, 2, none⟩), .bool nx, .pointer (some ⟨p8, 0, none⟩), undef, .pointer (some ⟨p8, 4, none⟩), undef, .pointer (some ⟨p8, 5, none⟩), undef]
set_option maxRecDepth 1000000 in
set_option maxHeartbeats 8000000 in
theorem mot_lay (p7 p8 num cyc : Nat) (nx : Bool) (m : Mg) (W : World) (K : Array Value) (h7 : Hid (W.heap[p7]? = some (.cells K 50))) (hK : K[0]? = some (.int .u8 (num : Nat)) ∧ K[1]? = some (.int .i64 (cyc : Nat)) ∧ K[2]? = some (.bool nx)) (hne : p7 ≠ p8)
    (h8 : W.heap[p8]? = some (.cells m.cells 27)) (K0 : Act → World → Prop) (t0 t1 t2 t3 t4 t5 t6 t9 t10 t11 t12 t13 t14 t15 t16 t17 t18 t19 t20 t21 t22 t23 t24 t25 t26 t27 t28 t29 t30 t31 t32 t33 t34 t35 t36 t37 t38 t39 t40 t41 t42 t43 t44 t45 t46 t47 t48 t49 t50 t51 t52 t53 : Value)
    (post : ∀ (w' : World) (s44 s45 s46 s47 s48 s49 s50 s51 s52 : Value), Far (fun k => k = p8) W w' → w'.heap[p8]? = some (.cells (mgMk num cyc nx m true true true) 27) → K0 ⟨#[t0, t1, t2, t3, t4, t5, t6, .pointer (some ⟨p7, 0, none⟩), .pointer (some ⟨p8, 0, none⟩), t9, t10, t11, t12, t13, t14, t15, t16, t17, t18, t19, t20, t21, t22, t23, t24, t25, t26, t27, t28, t29, t30, t31, t32, t33, t34, t35, t36, t37, t38, t39, t40, t41, t42, t43, s44, s45, s46, s47, s48, s49, s50, s51, s52, t53], []⟩ w') :
    Code.wp Tryz.prog motCode (Exit.then K0 fun _ _ _ => False) ⟨#[t0, t1, t2, t3, t4, t5, t6, .pointer (some ⟨p7, 0, none⟩), .pointer (some ⟨p8, 0, none⟩), t9, t10, t11, t12, t13, t14, t15, t16, t17, t18, t19, t20, t21, t22, t23, t24, t25, t26, t27, t28, t29, t30, t31, t32, t33, t34, t35, t36, t37, t38, t39, t40, t41, t42, t43, t44, t45, t46, t47, t48, t49, t50, t51, t52, t53], []⟩ W := by
  conv => arg 2; whnf
  refine wp_region_fillG (n := 54) (ops := motOps) (by kernel_rfl) (fun _ i w' v => v = (motSh p7 p8 num cyc nx).getD i undef) (GA W p8 num cyc nx m) ?_ ?_ ?_ ?_ ?_ ?_
  case refine_1 => kernel_rfl
  case refine_2 => kernel_rfl
  case refine_3 => rfl
  case refine_4 =>
    intro L hL
    refine ⟨Far.of_grew (Grew.refl W).drew, ?_⟩
    rw [hL, hL, hL]
    exact h8
  case refine_6 =>
    intro L c0 w' hL hdef hsz ho hd hG
    obtain ⟨tm, df⟩ := c0
    simp only at hdef hsz ho hd
    subst hdef
    have f0 : tm[0]?.getD undef = t0 := ho 0 (by kernel_rfl)
    have f1 : tm[1]?.getD undef = t1 := ho 1 (by kernel_rfl)
    have f2 : tm[2]?.getD undef = t2 := ho 2 (by kernel_rfl)
    have f3 : tm[3]?.getD undef = t3 := ho 3 (by kernel_rfl)
    have f4 : tm[4]?.getD undef = t4 := ho 4 (by kernel_rfl)
    have f5 : tm[5]?.getD undef = t5 := ho 5 (by kernel_rfl)
    have f6 : tm[6]?.getD undef = t6 := ho 6 (by kernel_rfl)
    have f7 : tm[7]?.getD undef = .pointer (some ⟨p7, 0, none⟩) := ho 7 (by kernel_rfl)
    have f8 : tm[8]?.getD undef = .pointer (some ⟨p8, 0, none⟩) := ho 8 (by kernel_rfl)
    have f9 : tm[9]?.getD undef = t9 := ho 9 (by kernel_rfl)
    have f10 : tm[10]?.getD undef = t10 := ho 10 (by kernel_rfl)
    have f11 : tm[11]?.getD undef = t11 := ho 11 (by kernel_rfl)
    have f12 : tm[12]?.getD undef = t12 := ho 12 (by kernel_rfl)
    have f13 : tm[13]?.getD undef = t13 := ho 13 (by kernel_rfl)
    have f14 : tm[14]?.getD undef = t14 := ho 14 (by kernel_rfl)
    have f15 : tm[15]?.getD undef = t15 := ho 15 (by kernel_rfl)
    have f16 : tm[16]?.getD undef = t16 := ho 16 (by kernel_rfl)
    have f17 : tm[17]?.getD undef = t17 := ho 17 (by kernel_rfl)
    have f18 : tm[18]?.getD undef = t18 := ho 18 (by kernel_rfl)
    have f19 : tm[19]?.getD undef = t19 := ho 19 (by kernel_rfl)
    have f20 : tm[20]?.getD undef = t20 := ho 20 (by kernel_rfl)
    have f21 : tm[21]?.getD undef = t21 := ho 21 (by kernel_rfl)
    have f22 : tm[22]?.getD undef = t22 := ho 22 (by kernel_rfl)
    have f23 : tm[23]?.getD undef = t23 := ho 23 (by kernel_rfl)
    have f24 : tm[24]?.getD undef = t24 := ho 24 (by kernel_rfl)
    have f25 : tm[25]?.getD undef = t25 := ho 25 (by kernel_rfl)
    have f26 : tm[26]?.getD undef = t26 := ho 26 (by kernel_rfl)
    have f27 : tm[27]?.getD undef = t27 := ho 27 (by kernel_rfl)
    have f28 : tm[28]?.getD undef = t28 := ho 28 (by kernel_rfl)
    have f29 : tm[29]?.getD undef = t29 := ho 29 (by kernel_rfl)
    have f30 : tm[30]?.getD undef = t30 := ho 30 (by kernel_rfl)
    have f31 : tm[31]?.getD undef = t31 := ho 31 (by kernel_rfl)
    have f32 : tm[32]?.getD undef = t32 := ho 32 (by kernel_rfl)
    have f33 : tm[33]?.getD undef = t33 := ho 33 (by kernel_rfl)
    have f34 : tm[34]?.getD undef = t34 := ho 34 (by kernel_rfl)
    have f35 : tm[35]?.getD undef = t35 := ho 35 (by kernel_rfl)
    have f36 : tm[36]?.getD undef = t36 := ho 36 (by kernel_rfl)
    have f37 : tm[37]?.getD undef = t37 := ho 37 (by kernel_rfl)
    have f38 : tm[38]?.getD undef = t38 := ho 38 (by kernel_rfl)
    have f39 : tm[39]?.getD undef = t39 := ho 39 (by kernel_rfl)
    have f40 : tm[40]?.getD undef = t40 := ho 40 (by kernel_rfl)
    have f41 : tm[41]?.getD undef = t41 := ho 41 (by kernel_rfl)
    have f42 : tm[42]?.getD undef = t42 := ho 42 (by kernel_rfl)
    have f43 : tm[43]?.getD undef = t43 := ho 43 (by kernel_rfl)
    have f53 : tm[53]?.getD undef = t53 := ho 53 (by kernel_rfl)
    have e : tm = #[tm[0]?.getD undef, tm[1]?.getD undef, tm[2]?.getD undef, tm[3]?.getD undef, tm[4]?.getD undef, tm[5]?.getD undef, tm[6]?.getD undef, tm[7]?.getD undef, tm[8]?.getD undef, tm[9]?.getD undef, tm[10]?.getD undef, tm[11]?.getD undef, tm[12]?.getD undef, tm[13]?.getD undef, tm[14]?.getD undef, tm[15]?.getD undef, tm[16]?.getD undef, tm[17]?.getD undef, tm[18]?.getD undef, tm[19]?.getD undef, tm[20]?.getD undef, tm[21]?.getD undef, tm[22]?.getD undef, tm[23]?.getD undef, tm[24]?.getD undef, tm[25]?.getD undef, tm[26]?.getD undef, tm[27]?.getD undef, tm[28]?.getD undef, tm[29]?.getD undef, tm[30]?.getD undef, tm[31]?.getD undef, tm[32]?.getD undef, tm[33]?.getD undef, tm[34]?.getD undef, tm[35]?.getD undef, tm[36]?.getD undef, tm[37]?.getD undef, tm[38]?.getD undef, tm[39]?.getD undef, tm[40]?.getD undef, tm[41]?.getD undef, tm[42]?.getD undef, tm[43]?.getD undef, tm[44]?.getD undef, tm[45]?.getD undef, tm[46]?.getD undef, tm[47]?.getD undef, tm[48]?.getD undef, tm[49]?.getD undef, tm[50]?.getD undef, tm[51]?.getD undef, tm[52]?.getD undef, tm[53]?.getD undef] := (arr_getS tm undef hsz).trans (by kernel_rfl)
    rw [f0, f1, f2, f3, f4, f5, f6, f7, f8, f9, f10, f11, f12, f13, f14, f15, f16, f17, f18, f19, f20, f21, f22, f23, f24, f25, f26, f27, f28, f29, f30, f31, f32, f33, f34, f35, f36, f37, f38, f39, f40, f41, f42, f43, f53] at e
    rw [e]
    have h9 := hG.2
    rw [hL 7 (of_decide_eq_true (by kernel_rfl)), hL 9 (of_decide_eq_true (by kernel_rfl)), hL 11 (of_decide_eq_true (by kernel_rfl))] at h9
    exact post w' (tm[44]?.getD undef) (tm[45]?.getD undef) (tm[46]?.getD undef) (tm[47]?.getD undef) (tm[48]?.getD undef) (tm[49]?.getD undef) (tm[50]?.getD undef) (tm[51]?.getD undef) (tm[52]?.getD undef) hG.1 h9
  simp only [AllFrom]
  refine ⟨?_, ?_, ?_, ?_, ?_, ?_, ?_, ?_, ?_, ?_, ?_, ?_, trivial⟩
  · intro L c0 w' hL ho hw hc' hd hG
    have e0 : c0.tmps[7]?.getD undef = .pointer (some ⟨p7, 0, none⟩) := ho 7 (by kernel_rfl)
    refine ga_value hd hG (by kernel_rfl) (.pointer (some ⟨p7, 0, none⟩)) ?_ rfl
    simp [execOp, go_sem, e0]
  · intro L c0 w' hL ho hw hc' hd hG
    have e0 : c0.tmps[44]?.getD undef = .pointer (some ⟨p7, 0, none⟩) := hd 0 44 (hw 0 (by kernel_rfl)) (by kernel_rfl)
    have hx : w'.cell? ⟨p7, 0, none⟩ = some (.int .u8 (num : Nat)) := by rw [cell_of_row w' p7 0 _ _ _ ((hG.1.block p7 (Array.getElem?_eq_some_iff.1 h7.out).1 hne).trans h7.out)]; exact hK.1
    refine ga_value hd hG (by kernel_rfl) (.int .u8 (num : Nat)) ?_ rfl
    simp [execOp, go_sem, e0, hx]
  · intro L c0 w' hL ho hw hc' hd hG
    have e0 : c0.tmps[7]?.getD undef = .pointer (some ⟨p7, 0, none⟩) := ho 7 (by kernel_rfl)
    refine ga_value hd hG (by kernel_rfl) (.pointer (some ⟨p7, 1, none⟩)) ?_ rfl
    simp [execOp, go_sem, e0]
  · intro L c0 w' hL ho hw hc' hd hG
    have e0 : c0.tmps[46]?.getD undef = .pointer (some ⟨p7, 1, none⟩) := hd 2 46 (hw 2 (by kernel_rfl)) (by kernel_rfl)
    have hx : w'.cell? ⟨p7, 1, none⟩ = some (.int .i64 (cyc : Nat)) := by rw [cell_of_row w' p7 1 _ _ _ ((hG.1.block p7 (Array.getElem?_eq_some_iff.1 h7.out).1 hne).trans h7.out)]; exact hK.2.1
    refine ga_value hd hG (by kernel_rfl) (.int .i64 (cyc : Nat)) ?_ rfl
    simp [execOp, go_sem, e0, hx]
  · intro L c0 w' hL ho hw hc' hd hG
    have e0 : c0.tmps[7]?.getD undef = .pointer (some ⟨p7, 0, none⟩) := ho 7 (by kernel_rfl)
    refine ga_value hd hG (by kernel_rfl) (.pointer (some ⟨p7, 2, none⟩)) ?_ rfl
    simp [execOp, go_sem, e0]
  · intro L c0 w' hL ho hw hc' hd hG
    have e0 : c0.tmps[48]?.getD undef = .pointer (some ⟨p7, 2, none⟩) := hd 4 48 (hw 4 (by kernel_rfl)) (by kernel_rfl)
    have hx : w'.cell? ⟨p7, 2, none⟩ = some (.bool nx) := by rw [cell_of_row w' p7 2 _ _ _ ((hG.1.block p7 (Array.getElem?_eq_some_iff.1 h7.out).1 hne).trans h7.out)]; exact hK.2.2
    refine ga_value hd hG (by kernel_rfl) (.bool nx) ?_ rfl
    simp [execOp, go_sem, e0, hx]
  · intro L c0 w' hL ho hw hc' hd hG
    have e0 : c0.tmps[8]?.getD undef = .pointer (some ⟨p8, 0, none⟩) := ho 8 (by kernel_rfl)
    refine ga_value hd hG (by kernel_rfl) (.pointer (some ⟨p8, 0, none⟩)) ?_ rfl
    simp [execOp, go_sem, e0]
  · intro L c0 w' hL ho hw hc' hd hG
    have e0 : c0.tmps[50]?.getD undef = .pointer (some ⟨p8, 0, none⟩) := hd 6 50 (hw 6 (by kernel_rfl)) (by kernel_rfl)
    have e1 : c0.tmps[45]?.getD undef = .int .u8 (num : Nat) := hd 1 45 (hw 1 (by kernel_rfl)) (by kernel_rfl)
    obtain ⟨cv, hcv⟩ : ∃ cv, w'.cell? ⟨p8, 0, none⟩ = some cv := ⟨_, by rw [cell_of_row w' p8 0 _ _ _ hG.2]; rfl⟩
    have hfz : w'.frozen? ⟨p8, 0, none⟩ = false := by simp [World.frozen?, hG.2]
    refine ga_store rfl hd hG 0 (.int .u8 (num : Nat)) ?_ ?_
    · simp [execOp, go_sem, e0, e1, hcv, hfz]
    · simp [mgMk, also]
  · intro L c0 w' hL ho hw hc' hd hG
    have e0 : c0.tmps[8]?.getD undef = .pointer (some ⟨p8, 0, none⟩) := ho 8 (by kernel_rfl)
    refine ga_value hd hG (by kernel_rfl) (.pointer (some ⟨p8, 4, none⟩)) ?_ rfl
    simp [execOp, go_sem, e0]
  · intro L c0 w' hL ho hw hc' hd hG
    have e0 : c0.tmps[51]?.getD undef = .pointer (some ⟨p8, 4, none⟩) := hd 8 51 (hw 8 (by kernel_rfl)) (by kernel_rfl)
    have e1 : c0.tmps[47]?.getD undef = .int .i64 (cyc : Nat) := hd 3 47 (hw 3 (by kernel_rfl)) (by kernel_rfl)
    obtain ⟨cv, hcv⟩ : ∃ cv, w'.cell? ⟨p8, 4, none⟩ = some cv := ⟨_, by rw [cell_of_row w' p8 4 _ _ _ hG.2]; rfl⟩
    have hfz : w'.frozen? ⟨p8, 4, none⟩ = false := by simp [World.frozen?, hG.2]
    refine ga_store rfl hd hG 4 (.int .i64 (cyc : Nat)) ?_ ?_
    · simp [execOp, go_sem, e0, e1, hcv, hfz]
    · simp [mgMk, also]
  · intro L c0 w' hL ho hw hc' hd hG
    have e0 : c0.tmps[8]?.getD undef = .pointer (some ⟨p8, 0, none⟩) := ho 8 (by kernel_rfl)
    refine ga_value hd hG (by kernel_rfl) (.pointer (some ⟨p8, 5, none⟩)) ?_ rfl
    simp [execOp, go_sem, e0]
  · intro L c0 w' hL ho hw hc' hd hG
    have e0 : c0.tmps[52]?.getD undef = .pointer (some ⟨p8, 5, none⟩) := hd 10 52 (hw 10 (by kernel_rfl)) (by kernel_rfl)
    have e1 : c0.tmps[49]?.getD undef = .bool nx := hd 5 49 (hw 5 (by kernel_rfl)) (by kernel_rfl)
    obtain ⟨cv, hcv⟩ : ∃ cv, w'.cell? ⟨p8, 5, none⟩ = some cv := ⟨_, by rw [cell_of_row w' p8 5 _ _ _ hG.2]; rfl⟩
    have hfz : w'.frozen? ⟨p8, 5, none⟩ = false := by simp [World.frozen?, hG.2]
    refine ga_store rfl hd hG 5 (.bool nx) ?_ ?_
    · simp [execOp, go_sem, e0, e1, hcv, hfz]
    · simp [mgMk, also]
end Go.Proofs.YtnhigfkhdmkoeaaGreatDoor

namespace Go.Proofs.YtnhigfkhdmkoeaaGreatDoor
open Go.RowKit
set_option linter.unusedVariables false

/-- Whole numbers of 64 bits. -/
def I64 (zs : List Int) : Prop := ∀ i, -9223372036854775808 ≤ zi zs i ∧ zi zs i ≤ 9223372036854775807
theorem i64_lit {zs : List Int} (h : zs.all (fun z => decide (-9223372036854775808 ≤ z ∧ z ≤ 9223372036854775807)) = true) : I64 zs := fun i => by
  by_cases hi : i < zs.length
  · have := List.all_eq_true.1 h zs[i] (List.getElem_mem hi)
    rw [zi_lt hi]
    simpa using this
  · unfold zi
    rw [List.getD_eq_getElem?_getD, List.getElem?_eq_none (by omega)]
    simp
theorem RowZ.ofY {w : World} {x : Addr} {len cap : Nat} {zs : List Int} (hl : len ≤ cap) (hz : zs.length = cap) (hcell : ∀ i, i < zs.length → w.cell? (x.add i) = some (.int .i64 (zs.getD i 0))) : RowZ .i64 w (.slice (some x) (zs.take len).length cap) (zs.take len) := by
  have hlen : (zs.take len).length = len := by simp; omega
  refine ⟨some x, cap, rfl, by omega, fun hp => ?_⟩
  rw [hlen] at hp
  have hc0 := hcell 0 (by omega)
  obtain ⟨b, o, spot⟩ := x
  have hs : spot = none := by simpa [Addr.add] using World.cell?_spot hc0
  subst hs
  refine ⟨b, o, rfl, World.block_lt_of_cell? w ⟨b, o, none⟩ (by simpa [Addr.add] using hc0), fun i hi => ?_⟩
  rw [hlen] at hi
  have := hcell i (by omega)
  rw [show (⟨b, o, none⟩ : Addr).add i = ⟨b, o + i, none⟩ by unfold Addr.add; split <;> simp_all] at this
  rw [this]
  unfold zi
  rw [List.getD_eq_getElem?_getD, List.getD_eq_getElem?_getD, List.getElem?_take, if_pos hi]
theorem RowZ.far3 {F : Nat → Prop} {k : IntKind} {w w' : World} {v : Value} {zs : List Int} (h : RowZ k w v zs) (g : Far F w w') (hF : 0 < zs.length → ∀ b, v.ownBlock = some b → ¬ F b) : RowZ k w' v zs := by
  obtain ⟨A, c, rfl, hc, hr⟩ := h
  refine ⟨A, c, rfl, hc, fun hn => ?_⟩
  obtain ⟨b, o, rfl, hb, hcell⟩ := hr hn
  exact ⟨b, o, rfl, Nat.lt_of_lt_of_le hb g.size, fun i hi => (g.cell (p := ⟨b, o + i, none⟩) hb (hF hn b rfl)).trans (hcell i hi)⟩
section
variable {P : Program} (w : World)
/-- 'append(out, in...)' of integers, the row the call's own. -/
theorem wpList_joinY {ops : Array Oper} {rest : List Oper} {o : Oper} {a : Act} {Q : Exit → Act → World → Prop} (hgd : o.guard = none) (s x : Operand) (t : TypeId)
    (ho : o.op = .call { callee := .builtin .append, args := #[s, x], argTypes := #[t, t] })
    (base : Nat) (E : TypeId) (k : IntKind) (bytes : Nat) (ht : P.underlying t = some (.slice E)) (hi : (P.info? E).map (fun i => (i.zero, i.size, i.bytes)) = some (some (.int k 0), 1, bytes))
    (v : Value) (ns : List Int) (hs : a.eval s = v) (hown : OwnZ base E k w v ns)
    (u : Value) (ms : List Int) (hx : a.eval x = u) (hrow : RowZ k w u ms)
    (hlen : (ns.length + ms.length) * bytes ≤ 140737488355328) (hb : 0 < bytes) (hbase : base ≤ w.heap.size)
    (h : ∀ v' w', OwnZ base E k w' v' (ns ++ ms) → w.grownBy w' v.ownBlock → wpList P ops Q rest (a.put o.dst v') w') : wpList P ops Q (o :: rest) a w := by
  refine wpList_plain hgd fun K hK => ?_
  obtain ⟨i, hi0, hz0, hz1, hz2⟩ := info_parts hi
  obtain ⟨A, c, rfl, hc, hr⟩ := hrow
  have hmax : ns.length + ms.length ≤ maxLen := by
    have := Nat.le_mul_of_pos_right (ns.length + ms.length) hb
    unfold maxLen; omega
  have he : ∀ v' w', w'.ownsRow base E 1 v' (ns.length + ms.length) (cellsZ k ns ++ cellsZ k ms) → OwnZ base E k w' v' (ns ++ ms) := fun v' w' h1 => by
    unfold OwnZ
    simpa [cellsZ] using h1
  rcases A with _ | ad
  · have h0 : ms = [] := by
      rcases Nat.eq_zero_or_pos ms.length with h | h
      · exact List.eq_nil_of_length_eq_zero h
      · obtain ⟨b, o, e, _⟩ := hr h; cases e
    subst h0
    have hrun := run_join_nil (P := P) w base t o.type E i 1 ht hi0 v ns.length (cellsZ k ns) hown c
    unfold Oper.wp
    have hx' : a.eval x = .slice none 0 c := hx
    simp [execOp, ho, resolve, invoke, builtin, hs, hx', hrun, Result.andThen]
    exact hK _ _ (h v w (by rw [List.append_nil]; exact hown) (World.grownBy.refl w _))
  · refine wp_append_own w s x t ho base E i (.int k 0) 1 bytes ht hi0 hz0 hz1 hz2 rfl (by decide) v ns.length (cellsZ k ns) hs hown ad ms.length c (cellsZ k ms) hx (by simp [cellsZ]) ?_ ?_ hmax hlen hbase (fun v' w' h1 h2 h3 => hK _ _ (h v' w' (he v' w' h1) h2))
    · intro j z hj
      have hj' : j < ms.length := by have := (List.getElem?_eq_some_iff.1 hj).1; simpa [cellsZ] using this
      obtain ⟨b, o, e, hbl, hcell⟩ := hr (by omega)
      cases e
      rw [show (⟨b, o, none⟩ : Addr).add j = ⟨b, o + j, none⟩ by unfold Addr.add; split <;> simp_all, hcell j hj', ← hj]
      simp [cellsZ, zi, hj']
    · intro z hz
      simp only [cellsZ, List.mem_map] at hz
      obtain ⟨n, _, rfl⟩ := hz
      rfl
end
theorem own_litY {B : Nat} (w : World) (k : IntKind) (E : TypeId) (hB : B ≤ w.heap.size) : OwnZ B E k (w.alloc (.cells #[] E)) (.slice (some ⟨w.heap.size, 0, none⟩) 0 0) [] :=
  ⟨by simp [cellsZ], .inr ⟨_, 0, _, rfl, hB, heap_alloc_new w _, Nat.le_refl _, Nat.zero_le _, by simp, by simp [cellsZ]⟩⟩
theorem Grew.pushW {w0 w w' : World} {B : Nat} {E : TypeId} {k : IntKind} {v : Value} {ns : List Int} (g : Grew w0 w) (h : OwnZ B E k w v ns) (hB : w0.heap.size ≤ B) (hg : w.grownBy w' v.ownBlock) : Grew w0 w' :=
  Below.grown g hg g.size (fun b hb => Nat.le_trans hB (World.ownsRow.lt h b hb).1)
theorem own_litN {B : Nat} (w : World) (E : TypeId) (cs : Array Value) (ns : List Nat) (n : Nat) (hB : B ≤ w.heap.size) (hc : cs = (cellsOf .u8 ns).toArray) (hn : n = ns.length) (hm : ns.length ≤ maxLen) : Own B E .u8 (w.alloc (.cells cs E)) (.slice (some ⟨w.heap.size, 0, none⟩) n n) ns := by
  subst hc hn
  exact Own.lit w .u8 E B hB ns hm
theorem Grew.pushV {w0 w w' : World} {B : Nat} {E : TypeId} {k : IntKind} {v : Value} {ns : List Nat} (g : Grew w0 w) (h : Own B E k w v ns) (hB : w0.heap.size ≤ B) (hg : w.grownBy w' v.ownBlock) : Grew w0 w' :=
  Below.grown g hg g.size (fun b hb => Nat.le_trans hB (World.ownsRow.lt h b hb).1)
end Go.Proofs.YtnhigfkhdmkoeaaGreatDoor

namespace Go.Proofs.YtnhigfkhdmkoeaaGreatDoor
open Go.RowKit
set_option linter.unusedVariables false

/-- A row of values in a block that was made behind W. -/
def RowN (W w : World) (v : Value) (zs : List Int) : Prop := RowZ .i64 w v zs ∧ (0 < zs.length → ∀ x, v.ownBlock = some x → W.heap.size ≤ x)
theorem RowN.grew {W w w' : World} {v : Value} {zs : List Int} (h : RowN W w v zs) (g : Grew w w') : RowN W w' v zs := ⟨h.1.grew g, h.2⟩
theorem RowN.far {F : Nat → Prop} {W w w' : World} {v : Value} {zs : List Int} (h : RowN W w v zs) (g : Far F w w') (hF : ∀ k, F k → k < W.heap.size) : RowN W w' v zs :=
  ⟨h.1.far3 g (fun hn b hb hk => by have := h.2 hn b hb; have := hF b hk; omega), h.2⟩
theorem rowN_put {W w w' : World} {p : Nat} {v x : Value} {xs : List Value} {zs : List Int} {E : TypeId} (h : RowN W w v zs) (hb : w.heap[p]? = some (.cells (x :: xs).toArray E)) (hx : ∀ u ∈ (x :: xs), ∀ z : Int, u ≠ .int .i64 z) (F : Far (fun k => k = p) w w') : RowN W w' v zs :=
  ⟨rowZ_put h.1 hb hx F, h.2⟩
/- A region that calls Decode of UBX and keeps what it tells in a variable, whatever comes up first. -/
/-- What an operation leaves: a value (inl); what is told (0), the message (1), the variable (2). -/
def UCallN (a1 b1 : Int) (er : Nat) (zs : List Int) (W : World) (st : Nat) (s : Value ⊕ Nat) (L : Nat → Bool) (w : World) (v : Value) : Prop :=
  match s with
  | .inl x => v = x
  | .inr 0 => ∃ zv, v = .tuple #[.agg #[.int .u8 a1, .int .u8 b1, zv], .int .i64 (er : Nat)] ∧ RowN W w zv zs
  | .inr 1 => ∃ zv, v = .agg #[.int .u8 a1, .int .u8 b1, zv] ∧ RowN W w zv zs
  | .inr 2 => ∃ p, v = .pointer (some ⟨p, 0, none⟩) ∧ W.heap.size ≤ p ∧ p < w.heap.size ∧ (if L st = true then ∃ zv, ThreeAt w p (.int .u8 a1) (.int .u8 b1) zv ∧ RowN W w zv zs else w.heap[p]? = some (.cells #[.int .u8 0, .int .u8 0, .slice none 0 0] 36))
  | .inr _ => True
section
variable {a1 b1 : Int} {er : Nat} {zs : List Int}
theorem UCallN.also {W : World} {st : Nat} {s : Value ⊕ Nat} {L : Nat → Bool} {j : Nat} {w w' : World} {v : Value} (h : UCallN a1 b1 er zs W st s L w v) (g : Grew w w') (hj : j ≠ st) : UCallN a1 b1 er zs W st s (also L j) w' v := by
  unfold UCallN at h ⊢
  split at h
  · exact h
  · obtain ⟨zv, e, hl⟩ := h; exact ⟨zv, e, hl.grew g⟩
  · obtain ⟨zv, e, hl⟩ := h; exact ⟨zv, e, hl.grew g⟩
  · obtain ⟨p, e, h1, h2, h3⟩ := h
    refine ⟨p, e, h1, Nat.lt_of_lt_of_le h2 g.size, ?_⟩
    rw [also_ne (by omega)]
    split at h3
    · rename_i q
      rw [if_pos q]
      obtain ⟨zv, k1, k2⟩ := h3
      exact ⟨zv, k1.grew g, k2.grew g⟩
    · rename_i q
      rw [if_neg q]
      exact (Below.block g p h2).trans h3
  · trivial
theorem un_of {P : Program} {Q : Exit → Act → World → Prop} {o : Oper} {a : Act} {w W : World} {L : Nat → Bool} {ops : Array Oper} {i st : Nat} {sh : List (Value ⊕ Nat)}
    (hd : ∀ j d, L j = true → writes ops j d = true → UCallN a1 b1 er zs W st (sh.getD j (.inr 4)) L w (a.tmps[d]?.getD undef)) (g : Grew W w) (hi : i ≠ st)
    (h : o.wp P a w (fun a' w'' => ∃ v, a' = a.put o.dst v ∧ UCallN a1 b1 er zs W st (sh.getD i (.inr 4)) (also L i) w'' v ∧ Grew w w'') Q) :
    o.wp P a w (fun a' w' => ∃ v, a' = a.put o.dst v ∧ (∀ d, o.dst = some d → UCallN a1 b1 er zs W st (sh.getD i (.inr 4)) (also L i) w' v) ∧ (∀ j d, L j = true → writes ops j d = true → UCallN a1 b1 er zs W st (sh.getD j (.inr 4)) (also L i) w' (a.tmps[d]?.getD undef)) ∧ Grew W w') Q :=
  Oper.wp_mono (fun a' w' ⟨v, h1, h2, h3⟩ => ⟨v, h1, fun _ _ => h2, fun j d hl hw => (hd j d hl hw).also h3 hi, g.trans h3⟩) h
theorem un_store {Q : Exit → Act → World → Prop} {o : Oper} {a : Act} {w W : World} {L : Nat → Bool} {ops : Array Oper} {i t u : Nat} {sh : List (Value ⊕ Nat)}
    (hop : o.op = .store 36 (.tmp u) (.tmp t)) (hdst : o.dst = none)
    (hd : ∀ j d, L j = true → writes ops j d = true → UCallN a1 b1 er zs W i (sh.getD j (.inr 4)) L w (a.tmps[d]?.getD undef)) (g : Grew W w)
    (h4 : UCallN a1 b1 er zs W i (.inr 2) L w (a.tmps[u]?.getD undef)) (ht : UCallN a1 b1 er zs W i (.inr 1) L w (a.tmps[t]?.getD undef)) (hL : L i = false)
    (hone : ((List.range ops.size).all fun j => match sh.getD j (.inr 4) with | .inr 2 => writes ops j u | _ => true) = true) :
    o.wp Tryz.prog a w (fun a' w' => ∃ v, a' = a.put o.dst v ∧ (∀ d, o.dst = some d → UCallN a1 b1 er zs W i (sh.getD i (.inr 4)) (also L i) w' v) ∧ (∀ j d, L j = true → writes ops j d = true → UCallN a1 b1 er zs W i (sh.getD j (.inr 4)) (also L i) w' (a.tmps[d]?.getD undef)) ∧ Grew W w') Q := by
  obtain ⟨p, e4, hWp, hpl, h4⟩ := h4
  rw [hL, if_neg (by decide)] at h4
  have hblk := h4
  obtain ⟨zv, e17, hrow⟩ := ht
  have hT : ThreeAt w p (.int .u8 0) (.int .u8 0) (.slice none 0 0) := by
    refine ⟨hpl, ?_, ?_, ?_, ?_, ?_, ?_⟩
    · rw [cell_of_row w p 0 _ _ _ hblk]; rfl
    · rw [cell_of_row w p 1 _ _ _ hblk]; rfl
    · rw [cell_of_row w p 2 _ _ _ hblk]; rfl
    · simp [World.frozen?, hblk]
    · simp [World.frozen?, hblk]
    · simp [World.frozen?, hblk]
  obtain ⟨⟨A, cap, ezv, _⟩, _⟩ := id hrow
  have hF := (((Far.refl (fun x => x = p) w).setCell (p := ⟨p, 0, none⟩) rfl (.int .u8 a1)).setCell (p := ⟨p, 1, none⟩) rfl (.int .u8 b1)).setCell (p := ⟨p, 2, none⟩) rfl zv
  have hvar := three_put3 (x' := .int .u8 a1) (y' := .int .u8 b1) (z' := zv) hT
  have hg1 : Grew W (((w.setCell ⟨p, 0, none⟩ (.int .u8 a1)).setCell ⟨p, 1, none⟩ (.int .u8 b1)).setCell ⟨p, 2, none⟩ zv) := ((g.setCell hWp _).setCell hWp _).setCell hWp _
  have hex : (execOp a.eval o).run Tryz.prog w = .ok .skip (((w.setCell ⟨p, 0, none⟩ (.int .u8 a1)).setCell ⟨p, 1, none⟩ (.int .u8 b1)).setCell ⟨p, 2, none⟩ zv) := by
    obtain ⟨_, c0, c1, c2, f0, f1, f2⟩ := hT
    subst ezv
    simp [execOp, hop, go_sem, e4, e17, c0, c1, c2, f0, f1, f2]
  generalize ((w.setCell ⟨p, 0, none⟩ (.int .u8 a1)).setCell ⟨p, 1, none⟩ (.int .u8 b1)).setCell ⟨p, 2, none⟩ zv = w1 at *
  have hkept : ∀ zv', RowN W w zv' zs → RowN W w1 zv' zs := fun zv' hr => rowN_put hr hblk (fun u hu z => by simp at hu; rcases hu with rfl | rfl | rfl <;> simp) hF
  unfold Oper.wp
  rw [hex]
  refine ⟨undef, by rw [hdst], fun d hd' => (by rw [hdst] at hd'; cases hd'), fun j d hl hwr => ?_, hg1⟩
  have h := hd j d hl hwr
  have h1 := fun q => List.all_eq_true.1 hone j (List.mem_range.2 q)
  have hjs : j < ops.size := by
    unfold writes at hwr
    split at hwr
    · cases hwr
    · exact (Array.getElem?_eq_some_iff.1 ‹_›).1
  replace h1 := h1 hjs
  cases hs : sh.getD j (.inr 4) with
  | inl x => rw [hs] at h; exact h
  | inr n =>
    rw [hs] at h h1
    unfold UCallN at h ⊢
    match n, h, h1 with
    | 0, h, _ => obtain ⟨zv', e, hl⟩ := h; exact ⟨zv', e, hkept _ hl⟩
    | 1, h, _ => obtain ⟨zv', e, hl⟩ := h; exact ⟨zv', e, hkept _ hl⟩
    | 2, h, h1 =>
      have : d = u := by
        unfold writes at hwr h1
        cases hq : ops[j]? with
        | none => rw [hq] at hwr; cases hwr
        | some o' =>
          rw [hq] at hwr h1
          simp only [beq_iff_eq] at hwr h1
          exact Option.some.inj (hwr.symm.trans h1)
      subst this
      refine ⟨p, e4, hWp, hvar.lt, ?_⟩
      rw [if_pos (by unfold Proofs.YtnhigfkhdmkoeaaGreatDoor.also; simp)]
      exact ⟨_, hvar, hkept _ hrow⟩
    | _ + 3, _, _ => trivial
end
end Go.Proofs.YtnhigfkhdmkoeaaGreatDoor


/-
  Contracts of civil: years, leap years, lengths of months.
  Plain numbers of dates: the first day of a year and of a month. Nothing of the program.
  Contracts of civil: the first day of a month.
  Contracts of civil: the date of a number; numbers of dates; seconds and moments.
  Contracts of civil: numbers of dates; seconds and moments.
  Contracts of civil: the moment of a second.
  Contracts of the document's dates: leap years, lengths, numbers of dates.
  The known answers of civil; the walk of the law on dates.
  Contracts of the document's seconds and moments.
-/
import Derived.Test.YtlcmjedbdopglaaGreatDoorGrew
import Derived.LoopTactic
import Derived.OwnWalk
namespace Go.Proofs.YtlcmjedbdopglaaGreatDoor
open Go.RowKit
set_option linter.unusedVariables false

/- Contracts of civil: years, leap years, lengths of months. -/
/-- 1900 to 2199. -/
def isYr (y : Int) : Bool := decide (1900 ≤ y ∧ y ≤ 2199)
def leapOf (y : Int) : Bool := decide ((1900 ≤ y ∧ y ≤ 2199) ∧ y % 4 = 0 ∧ (y % 100 ≠ 0 ∨ y % 400 = 0))
def lenTab (m : Int) : Int := if m = 2 then 28 else if m = 4 ∨ m = 6 ∨ m = 9 ∨ m = 11 then 30 else 31
def lenOf (y m : Int) : Int := if (1900 ≤ y ∧ y ≤ 2199) ∧ 1 ≤ m ∧ m ≤ 12 then (if m = 2 ∧ leapOf y = true then 29 else lenTab m) else 0

/-- The table of lengths lies in the program's one variable. -/
def Tab (w : World) : Prop := 1 < w.heap.size ∧ ∀ i : Nat, i < 12 → w.cell? ⟨1, i, none⟩ = some (.int .i64 (lenTab (i + 1)))
theorem Tab.grew {w w' : World} (h : Tab w) (g : Grew w w') : Tab w' :=
  ⟨Nat.lt_of_lt_of_le h.1 g.size, fun i hi => (g.cell (by exact h.1)).trans (h.2 i hi)⟩

theorem ret_bool {a b : Bool} (h : a = b) : Ending.returned (.bool a) = .returned (.bool b) := by rw [h]

theorem civ_isYear (y : Int) (w : World) (hy : -9223372036854775808 ≤ y ∧ y ≤ 9223372036854775807) :
    Calls Tryz.prog 64 #[.int .i64 y] w fun e w' => e = .returned (.bool (isYr y)) ∧ Grew w w' := by
  go_enter Tryz.func64, Tryz.ntmps64
  go_wp2
  all_goals go_ret
  all_goals (refine ⟨ret_bool ?_, Grew.refl _⟩; rw [Bool.eq_iff_iff]; simp [isYr])
  all_goals omega

theorem civ_Leap (y : Int) (w : World) (hy : -9223372036854775808 ≤ y ∧ y ≤ 9223372036854775807) :
    Calls Tryz.prog 65 #[.int .i64 y] w fun e w' => e = .returned (.bool (leapOf y)) ∧ Grew w w' := by
  have t4 : 0 ≤ y → y.tmod 4 = y % 4 := fun h => Int.tmod_eq_emod_of_nonneg h
  have t1 : 0 ≤ y → y.tmod 100 = y % 100 := fun h => Int.tmod_eq_emod_of_nonneg h
  have t2 : 0 ≤ y → y.tmod 400 = y % 400 := fun h => Int.tmod_eq_emod_of_nonneg h
  have hi : isYr y = true ↔ 1900 ≤ y ∧ y ≤ 2199 := by simp [isYr]
  have T4 := Lib.hid t4; have T1 := Lib.hid t1; have T2 := Lib.hid t2; have HI := Lib.hid hi
  clear t4 t1 t2 hi
  go_enter Tryz.func65, Tryz.ntmps65
  go_wp2_with (go_at_call 64; refine (civ_isYear _ _ hy).mono ?_; rintro e w' ⟨rfl, hg⟩)
  all_goals go_ret
  all_goals (refine ⟨ret_bool ?_, hg⟩; have t4 := T4.out; have t1 := T1.out; have t2 := T2.out; have hi := HI.out; rw [Bool.eq_iff_iff]; simp [leapOf])
  all_goals simp_all
  all_goals omega

theorem len_tab (y m : Int) (hy : isYr y = true) (hm : 1 ≤ m ∧ m ≤ 12) (h2 : ¬(m = 2 ∧ leapOf y = true)) : lenOf y m = lenTab m := by
  have hy : 1900 ≤ y ∧ y ≤ 2199 := by simpa [isYr] using hy
  unfold lenOf; rw [if_pos ⟨hy, hm⟩, if_neg h2]
theorem len_feb (y m : Int) (hy : isYr y = true) (hm : m = 2) (h2 : leapOf y = true) : lenOf y m = 29 := by
  have hy : 1900 ≤ y ∧ y ≤ 2199 := by simpa [isYr] using hy
  unfold lenOf; rw [if_pos ⟨hy, by omega⟩, if_pos ⟨hm, h2⟩]
theorem len_none (y m : Int) (h : ¬isYr y = true ∨ m < 1 ∨ 12 < m) : lenOf y m = 0 := by
  have hy : isYr y = true ↔ 1900 ≤ y ∧ y ≤ 2199 := by simp [isYr]
  unfold lenOf; rw [if_neg]; intro hh; rcases h with h | h | h
  · exact h (hy.2 hh.1)
  · omega
  · omega

theorem civ_Length_none (y m : Int) (w : World) (hy : -9223372036854775808 ≤ y ∧ y ≤ 9223372036854775807) (hm : -9223372036854775808 ≤ m ∧ m ≤ 9223372036854775807) (h : isYr y = false ∨ (isYr y = true ∧ (m < 1 ∨ 12 < m))) :
    Calls Tryz.prog 38 #[.int .i64 y, .int .i64 m] w fun e w' => e = .returned (.int .i64 0) ∧ Grew w w' := by
  have H1 := fun w => Lib.hid (civ_isYear y w hy)
  rcases h with h | ⟨h, h' | h'⟩
  all_goals rw [h] at H1
  all_goals
    go_enter Tryz.func38, Tryz.ntmps38
    go_wp2_with fail
    refine (H1 _).out.mono ?_
    rintro e w1 ⟨rfl, g1⟩
    go_wp2
    all_goals go_ret
    all_goals exact ⟨rfl, g1⟩

theorem civ_Length_feb (y : Int) (w : World) (hy : isYr y = true) (h2 : leapOf y = true) :
    Calls Tryz.prog 38 #[.int .i64 y, .int .i64 2] w fun e w' => e = .returned (.int .i64 29) ∧ Grew w w' := by
  have hy' : 1900 ≤ y ∧ y ≤ 2199 := by simpa [isYr] using hy
  have H1 := fun w => Lib.hid (civ_isYear y w (by omega))
  have H2 := fun w => Lib.hid (civ_Leap y w (by omega))
  rw [hy] at H1; rw [h2] at H2
  go_enter Tryz.func38, Tryz.ntmps38
  go_wp2_with fail
  refine (H1 _).out.mono ?_
  rintro e w1 ⟨rfl, g1⟩
  go_wp2_with fail
  refine (H2 _).out.mono ?_
  rintro e w2 ⟨rfl, g2⟩
  go_wp2
  all_goals go_ret
  all_goals exact ⟨rfl, g1.trans g2⟩

theorem civ_Length_tab (y m : Int) (w : World) (ht : Tab w) (hy : isYr y = true) (hm : 1 ≤ m ∧ m ≤ 12) (h2 : m = 2 → leapOf y = false) :
    Calls Tryz.prog 38 #[.int .i64 y, .int .i64 m] w fun e w' => e = .returned (.int .i64 (lenTab m)) ∧ Grew w w' := by
  have hy' : 1900 ≤ y ∧ y ≤ 2199 := by simpa [isYr] using hy
  have H1 := fun w => Lib.hid (civ_isYear y w (by omega))
  have H2 := fun w => Lib.hid (civ_Leap y w (by omega))
  have hcell : ∀ w', Grew w w' → w'.cell? ⟨1, (m - 1).toNat, none⟩ = some (.int .i64 (lenTab m)) := fun w' g => by
    have := (ht.grew g).2 (m - 1).toNat (by omega)
    rw [this, show (((m - 1).toNat : Int) + 1) = m by omega]
  have HC := Lib.hid hcell
  clear hcell
  rw [hy] at H1
  by_cases hm2 : m = 2
  · subst hm2
    rw [h2 rfl] at H2
    go_enter Tryz.func38, Tryz.ntmps38
    go_wp2_with fail
    refine (H1 _).out.mono ?_
    rintro e w1 ⟨rfl, g1⟩
    go_wp2_with fail
    refine (H2 _).out.mono ?_
    rintro e w2 ⟨rfl, g2⟩
    have hc : w2.cell? ⟨1, 1, none⟩ = some (.int .i64 (lenTab 2)) := HC.out w2 (g1.trans g2)
    go_wp2
    all_goals go_ret
    all_goals exact ⟨rfl, g1.trans g2⟩
  · go_enter Tryz.func38, Tryz.ntmps38
    go_wp2_with fail
    refine (H1 _).out.mono ?_
    rintro e w1 ⟨rfl, g1⟩
    have hc := HC.out w1 g1
    rw [show (m - 1).toNat = m.toNat - 1 by omega] at hc
    go_wp2
    all_goals go_ret
    all_goals exact ⟨rfl, g1⟩

theorem civ_Length (y m : Int) (w : World) (hy : -9223372036854775808 ≤ y ∧ y ≤ 9223372036854775807) (hm : -9223372036854775808 ≤ m ∧ m ≤ 9223372036854775807) (ht : Tab w) :
    Calls Tryz.prog 38 #[.int .i64 y, .int .i64 m] w fun e w' => e = .returned (.int .i64 (lenOf y m)) ∧ Grew w w' := by
  by_cases h : isYr y = true
  · by_cases h1 : m < 1 ∨ 12 < m
    · rw [len_none y m (.inr h1)]; exact civ_Length_none y m w hy hm (.inr ⟨h, h1⟩)
    · by_cases h2 : m = 2 ∧ leapOf y = true
      · obtain ⟨rfl, h2⟩ := h2
        rw [len_feb y 2 h rfl h2]; exact civ_Length_feb y w h h2
      · rw [len_tab y m h (by omega) h2]
        exact civ_Length_tab y m w ht h (by omega) (fun e => by simpa using fun l => h2 ⟨e, l⟩)
  · rw [len_none y m (.inl h)]; exact civ_Length_none y m w hy hm (.inl (by simpa using h))

theorem civ_leapsTill (y : Int) (w : World) (hy : 0 ≤ y ∧ y ≤ 9223372036854775807) :
    Calls Tryz.prog 37 #[.int .i64 y] w fun e w' => e = .returned (.int .i64 (y / 4 - y / 100 + y / 400)) ∧ Grew w w' := by
  have t4 : y.tdiv 4 = y / 4 := Int.tdiv_eq_ediv_of_nonneg hy.1
  have t1 : y.tdiv 100 = y / 100 := Int.tdiv_eq_ediv_of_nonneg hy.1
  have t2 : y.tdiv 400 = y / 400 := Int.tdiv_eq_ediv_of_nonneg hy.1
  go_enter Tryz.func37, Tryz.ntmps37
  go_wp2
  all_goals go_ret
  all_goals exact ⟨rfl, Grew.refl _⟩
/- Plain numbers of dates: the first day of a year and of a month. Nothing of the program. -/
/-- The days of a year's first k months. -/
def cum (y : Int) : Nat → Int
  | 0 => 0
  | k + 1 => cum y k + lenOf y (k + 1)
/-- The number of a year's first day. -/
def base (y : Int) : Int := 365 * (y - 1900) + ((y - 1) / 4 - (y - 1) / 100 + (y - 1) / 400) - 460

theorem len_le (y m : Int) : 0 ≤ lenOf y m ∧ lenOf y m ≤ 31 := by
  unfold lenOf lenTab; (repeat' split) <;> omega
theorem len_ge (y m : Int) (hy : 1900 ≤ y ∧ y ≤ 2199) (hm : 1 ≤ m ∧ m ≤ 12) : 28 ≤ lenOf y m := by
  unfold lenOf lenTab; rw [if_pos ⟨hy, hm⟩]; (repeat' split) <;> omega
theorem cum_step (y : Int) (k : Nat) : cum y (k + 1) = cum y k + lenOf y (k + 1) := rfl
theorem cum_le (y : Int) (k : Nat) : 0 ≤ cum y k ∧ cum y k ≤ 31 * k := by
  induction k with
  | zero => simp [cum]
  | succ k ih => have := len_le y (k + 1); unfold cum; omega
theorem cum_mono (y : Int) {j k : Nat} (h : j ≤ k) : cum y j ≤ cum y k := by
  induction k with
  | zero => obtain rfl : j = 0 := by omega
            exact Int.le_refl _
  | succ k ih =>
    by_cases e : j = k + 1
    · subst e; exact Int.le_refl _
    · have := ih (by omega); have := len_le y (k + 1); rw [cum_step]; omega
theorem cum_year (y : Int) (hy : 1900 ≤ y ∧ y ≤ 2199) : cum y 12 = if leapOf y = true then 366 else 365 := by
  have e : ∀ m : Int, 1 ≤ m → m ≤ 12 → lenOf y m = if m = 2 ∧ leapOf y = true then 29 else lenTab m := fun m h1 h2 => by
    unfold lenOf; rw [if_pos ⟨hy, h1, h2⟩]
  show 0 + lenOf y 1 + lenOf y 2 + lenOf y 3 + lenOf y 4 + lenOf y 5 + lenOf y 6 + lenOf y 7 + lenOf y 8 + lenOf y 9 + lenOf y 10 + lenOf y 11 + lenOf y 12 = _
  rw [e 1 (by decide) (by decide), e 2 (by decide) (by decide), e 3 (by decide) (by decide), e 4 (by decide) (by decide), e 5 (by decide) (by decide), e 6 (by decide) (by decide), e 7 (by decide) (by decide), e 8 (by decide) (by decide), e 9 (by decide) (by decide), e 10 (by decide) (by decide), e 11 (by decide) (by decide), e 12 (by decide) (by decide)]
  by_cases h : leapOf y = true <;> simp [h, lenTab]
theorem base_next (y : Int) (hy : 1900 ≤ y ∧ y ≤ 2199) : base (y + 1) = base y + cum y 12 := by
  rw [cum_year y hy]
  have hl : leapOf y = true ↔ y % 4 = 0 ∧ (y % 100 ≠ 0 ∨ y % 400 = 0) := by simp [leapOf, hy]
  unfold base
  split
  · rename_i h; have := hl.1 h; omega
  · rename_i h; have : ¬(y % 4 = 0 ∧ (y % 100 ≠ 0 ∨ y % 400 = 0)) := fun k => h (hl.2 k)
    omega
theorem base_mono {y z : Int} (h : y ≤ z) : base y ≤ base z := by
  by_cases e : y = z
  · subst e; exact Int.le_refl _
  · unfold base; omega
theorem base_1900 : base 1900 = 0 := by decide
theorem base_2200 : base 2200 = 109573 := by decide
theorem base_le (y : Int) (h : 1900 ≤ y) : base y ≤ 366 * (y - 1900) := by unfold base; omega
theorem base_ge (y : Int) (h : 1900 ≤ y) : 0 ≤ base y := by unfold base; omega

/-- A number's month: the first day is not behind it, the next month's is. -/
structure InMonth (n y : Int) (m : Nat) : Prop where
  hy : 1900 ≤ y ∧ y ≤ 2199
  hm : 1 ≤ m ∧ m ≤ 12
  lo : base y + cum y (m - 1) ≤ n
  hi : n < base y + cum y m

theorem InMonth.not_year {n y z : Int} {m k : Nat} (a : InMonth n y m) (b : InMonth n z k) (h : y < z) : False := by
  have h1 := cum_mono y a.hm.2
  have h2 := base_next y a.hy
  have h3 := base_mono (y := y + 1) (z := z) (by omega)
  have h4 := (cum_le z (k - 1)).1
  have := a.hi; have := b.lo; omega
theorem InMonth.not_month {n y : Int} {m k : Nat} (a : InMonth n y m) (b : InMonth n y k) (h : m < k) : False := by
  have h1 := cum_mono y (j := m) (k := k - 1) (by omega)
  have := a.hi; have := b.lo; omega
theorem InMonth.unique {n y z : Int} {m k : Nat} (a : InMonth n y m) (b : InMonth n z k) : y = z ∧ m = k := by
  have e : y = z := by
    rcases Int.lt_trichotomy y z with h | h | h
    · exact (a.not_year b h).elim
    · exact h
    · exact (b.not_year a h).elim
  subst e
  refine ⟨rfl, ?_⟩
  rcases Nat.lt_trichotomy m k with h | h | h
  · exact (a.not_month b h).elim
  · exact h
  · exact (b.not_month a h).elim
theorem InMonth.range {n y : Int} {m : Nat} (a : InMonth n y m) : 0 ≤ n ∧ n < 109573 := by
  have h1 := base_ge y a.hy.1; have h2 := (cum_le y (m - 1)).1; have h3 := cum_mono y a.hm.2
  have h4 := base_next y a.hy; have h5 := base_mono (y := y + 1) (z := 2200) (by have := a.hy; omega)
  rw [base_2200] at h5
  have := a.lo; have := a.hi; omega
theorem InMonth.len {n y : Int} {m : Nat} (a : InMonth n y m) : n < base y + cum y (m - 1) + lenOf y m := by
  obtain ⟨k, rfl⟩ : ∃ k, m = k + 1 := ⟨m - 1, by have := a.hm; omega⟩
  have h := a.hi; rw [cum_step] at h
  simpa [Int.add_assoc] using h
/- Contracts of civil: the first day of a month. -/
set_option maxHeartbeats 1000000 in
theorem civ_firstDay (y : Int) (m : Nat) (w : World) (hy : 1900 ≤ y ∧ y ≤ 2200) (hm : 1 ≤ m ∧ m ≤ 12) (ht : Tab w) :
    Calls Tryz.prog 23 #[.int .i64 y, .int .i64 (m : Nat)] w fun e w' => e = .returned (.int .i64 (base y + cum y (m - 1))) ∧ Grew w w' := by
  have HB : Hid (365 * (y - 1900) + ((y - 1) / 4 - (y - 1) / 100 + (y - 1) / 400) - 460 = base y) := rfl
  have hb := base_ge y (by omega)
  have hb' := base_le y (by omega)
  have hlp : 0 ≤ ((y - 1) / 4 - (y - 1) / 100 + (y - 1) / 400) ∧ ((y - 1) / 4 - (y - 1) / 100 + (y - 1) / 400) ≤ 2000 := by omega
  have H1 := fun w => Lib.hid (civ_leapsTill (y - 1) w (by omega))
  have H2 := fun w => Lib.hid (civ_leapsTill 1899 w (by omega))
  rw [show (1899 : Int) / 4 - 1899 / 100 + 1899 / 400 = 460 from rfl] at H2
  generalize ((y - 1) / 4 - (y - 1) / 100 + (y - 1) / 400) = lp at H1 HB hlp
  go_enter Tryz.func23, Tryz.ntmps23
  go_wp2_with fail
  refine (H1 _).out.mono ?_
  rintro e w1 ⟨rfl, g1⟩
  go_wp2_with fail
  refine (H2 _).out.mono ?_
  rintro e w2 ⟨rfl, g2⟩
  have G0 := Lib.hid (g1.trans g2)
  clear H1 H2
  go_wp2_with fail
  rw [HB.out]
  go_loopw [5, 6] (fun d i wr => ∃ (j : Nat) (c : Int), j + 1 ≤ m ∧ i = .int .i64 ((j : Int) + 1) ∧ d = .int .i64 (base y + c) ∧ Hid (cum y j = c) ∧ Grew w wr) (fun _ i _ => m - (intOf i).toNat)
  case atStart => exact ⟨0, 0, by omega, rfl, by simp, Lib.hid rfl, G0.out⟩
  case round =>
    obtain ⟨j, c, hj, rfl, rfl, hc, hg⟩ := hrel
    have hcb : 0 ≤ c ∧ c ≤ 31 * j := by have := cum_le y j; rw [hc.out] at this; exact this
    have hlb := len_le y (j + 1)
    have hl := fun w ht => Lib.hid (civ_Length y (j + 1) w (by omega) (by omega) ht)
    obtain ⟨l, HL⟩ : ∃ l, Hid (lenOf y (j + 1) = l) := ⟨_, Lib.hid rfl⟩
    rw [HL.out] at hlb hl
    have hs : Hid (cum y (j + 1) = c + l) := by show _ = _; rw [cum_step, hc.out, HL.out]
    go_wp2_with (go_at_call 38; refine (hl _ (ht.grew hg)).out.mono ?_; rintro e w3 ⟨rfl, g3⟩)
    · go_roundw
      case rel => exact ⟨j + 1, c + l, by omega, by simp, by simp [Int.add_assoc], hs, hg.trans g3⟩
      case measure => simp [intOf]; omega
    · go_ret
      refine ⟨ret_int ?_, hg⟩
      obtain rfl : m = j + 1 := by omega
      rw [← hc.out]; simp
/- Contracts of civil: the date of a number; numbers of dates; seconds and moments. -/
theorem civ_firstDay_one (y : Int) (w : World) (hy : 1900 ≤ y ∧ y ≤ 2200) (ht : Tab w) :
    Calls Tryz.prog 23 #[.int .i64 y, .int .i64 1] w fun e w' => e = .returned (.int .i64 (base y)) ∧ Grew w w' := by
  have := civ_firstDay y 1 w hy (by omega) ht
  rw [show base y + cum y (1 - 1) = base y by simp [cum]] at this
  exact this

set_option maxHeartbeats 1000000 in
theorem civ_date (n : Int) (w : World) (hn : 0 ≤ n ∧ n < 109573) (ht : Tab w) :
    Calls Tryz.prog 24 #[.int .i64 n] w fun e w' => ∃ (y : Int) (m : Nat), InMonth n y m ∧ e = .returned (.tuple #[.int .i64 y, .int .i64 (m : Nat), .int .i64 (n - (base y + cum y (m - 1)) + 1)]) ∧ Grew w w' := by
  have t1 : n.tdiv 366 = n / 366 := Int.tdiv_eq_ediv_of_nonneg hn.1
  obtain ⟨q, HQ⟩ : ∃ q, Hid (1900 + n / 366 = q) := ⟨_, Lib.hid rfl⟩
  have hq : 1900 ≤ q ∧ q ≤ 2199 := by have := HQ.out; omega
  have hq2 := Lib.hid (show base q ≤ n by have := HQ.out; have := base_le q (by omega); omega)
  go_enter Tryz.func24, Tryz.ntmps24
  go_wp2_with fail
  rw [HQ.out]
  clear HQ t1
  go_loopw [2] (fun a wr => ∃ y : Int, a = .int .i64 y ∧ 1900 ≤ y ∧ y ≤ 2199 ∧ Hid (base y ≤ n) ∧ Grew w wr) (fun a _ => (2200 - intOf a).toNat)
  case atStart => exact ⟨q, rfl, hq.1, hq.2, hq2, Grew.refl _⟩
  case round =>
    obtain ⟨y, rfl, hy0, hy1, hb, hg⟩ := hrel
    have H1 := fun w ht => Lib.hid (civ_firstDay_one (y + 1) w (by omega) ht)
    obtain ⟨B, HB⟩ : ∃ B, Hid (base (y + 1) = B) := ⟨_, Lib.hid rfl⟩
    have hBb : 0 ≤ B ∧ B ≤ 120000 := by have := HB.out; have := base_ge (y + 1) (by omega); have := base_le (y + 1) (by omega); omega
    rw [HB.out] at H1
    go_wp2_with fail
    refine (H1 _ (ht.grew hg)).out.mono ?_
    rintro e w1 ⟨rfl, g1⟩
    have hg := hg.trans g1
    go_wp2_with fail
    · have hle : B ≤ n := by assumption
      go_roundw
      case rel =>
        have hz : y ≠ 2199 := fun e => by
          subst e
          have := HB.out; rw [show (2199 : Int) + 1 = 2200 from rfl, base_2200] at this; omega
        exact ⟨y + 1, rfl, by omega, by omega, Lib.hid (by rw [HB.out]; exact hle), hg⟩
      case measure => simp [intOf]; omega
    · have hlt : n < B := by assumption
      have hB := hb.out
      have HN : Hid (n < base y + cum y 12) := Lib.hid (by rw [← base_next y ⟨hy0, hy1⟩, HB.out]; exact hlt)
      clear H1 hlt HB hBb hB
      go_loopw [3] (fun a wr => ∃ m : Nat, a = .int .i64 (m : Nat) ∧ 1 ≤ m ∧ m ≤ 12 ∧ Hid (n < base y + cum y m) ∧ Grew w wr) (fun a _ => (intOf a).toNat)
      case atStart => exact ⟨12, rfl, by omega, by omega, HN, hg⟩
      case round =>
        clear g1 hg
        obtain ⟨m, rfl, hm0, hm1, hN, hg⟩ := hrel
        have H1 := fun w ht => Lib.hid (civ_firstDay y m w (by omega) (by omega) ht)
        obtain ⟨F, HF⟩ : ∃ F, Hid (base y + cum y (m - 1) = F) := ⟨_, Lib.hid rfl⟩
        have hFb : 0 ≤ F ∧ F ≤ 120000 := by have := HF.out; have := base_ge y (by omega); have := base_le y (by omega); have := cum_le y (m - 1); omega
        rw [HF.out] at H1
        go_wp2_with fail
        refine (H1 _ (ht.grew hg)).out.mono ?_
        rintro e w2 ⟨rfl, g2⟩
        have hg := hg.trans g2
        go_wp2_with fail
        · have hlt : n < F := by assumption
          go_roundw
          case rel =>
            have hz : m ≠ 1 := fun e => by
              subst e
              have h1 := HF.out; have h2 := hb.out; simp [cum] at h1; omega
            exact ⟨m - 1, by congr 1; omega, by omega, by omega, Lib.hid (by rw [HF.out]; exact hlt), hg⟩
          case measure => simp [intOf]; omega
        · have hle : F ≤ n := by assumption
          refine (H1 _ (ht.grew hg)).out.mono ?_
          rintro e w3 ⟨rfl, g3⟩
          go_wp2_with fail
          go_ret3
          exact ⟨y, m, ⟨⟨hy0, hy1⟩, ⟨hm0, hm1⟩, by rw [HF.out]; exact hle, hN.out⟩, by rw [HF.out]; rfl, hg.trans g3⟩
/- Contracts of civil: numbers of dates; seconds and moments. -/


def isTm (h m s : Int) : Bool := decide (0 ≤ h ∧ h < 24 ∧ 0 ≤ m ∧ m < 60 ∧ 0 ≤ s ∧ s < 60)

/-- A moment as a value. -/
@[reducible] def moment (y m d h i s : Int) : Value := .agg #[.int .i64 y, .int .i64 m, .int .i64 d, .int .i64 h, .int .i64 i, .int .i64 s]

/-- Six cells of a block. -/
def Six (w : World) (p : Nat) (a b c d e f : Value) : Prop := p < w.heap.size ∧ w.cell? ⟨p, 0, none⟩ = some a ∧ w.cell? ⟨p, 1, none⟩ = some b ∧ w.cell? ⟨p, 2, none⟩ = some c ∧ w.cell? ⟨p, 3, none⟩ = some d ∧ w.cell? ⟨p, 4, none⟩ = some e ∧ w.cell? ⟨p, 5, none⟩ = some f
theorem Six.grew {w w' : World} {p : Nat} {a b c d e f : Value} (h : Six w p a b c d e f) (g : Grew w w') : Six w' p a b c d e f := by
  obtain ⟨hp, h0, h1, h2, h3, h4, h5⟩ := h
  exact ⟨Nat.lt_of_lt_of_le hp g.size, (g.cell hp).trans h0, (g.cell hp).trans h1, (g.cell hp).trans h2, (g.cell hp).trans h3, (g.cell hp).trans h4, (g.cell hp).trans h5⟩
theorem six_new (w : World) (a b c d e f : Value) (E : TypeId) : ∃ W, w.alloc (.cells #[a, b, c, d, e, f] E) = W ∧ Grew w W ∧ Six W w.heap.size a b c d e f := by
  refine ⟨_, rfl, (Grew.refl _).alloc _, by simp, ?_, ?_, ?_, ?_, ?_, ?_⟩ <;> simp [go_sem]


/- Contracts of civil: the moment of a second. -/
/-- Six cells of a block, that may be written. -/
def Wet (w : World) (p : Nat) : Prop := w.frozen? ⟨p, 0, none⟩ = false ∧ w.frozen? ⟨p, 1, none⟩ = false ∧ w.frozen? ⟨p, 2, none⟩ = false ∧ w.frozen? ⟨p, 3, none⟩ = false ∧ w.frozen? ⟨p, 4, none⟩ = false ∧ w.frozen? ⟨p, 5, none⟩ = false
theorem Wet.grew {w w' : World} {p : Nat} (h : Wet w p) (hp : p < w.heap.size) (g : Grew w w') : Wet w' p := by
  obtain ⟨h0, h1, h2, h3, h4, h5⟩ := h
  exact ⟨(g.frozen hp).trans h0, (g.frozen hp).trans h1, (g.frozen hp).trans h2, (g.frozen hp).trans h3, (g.frozen hp).trans h4, (g.frozen hp).trans h5⟩
theorem six_wet (w : World) (a b c d e f : Value) (E : TypeId) : ∃ W, w.alloc (.cells #[a, b, c, d, e, f] E) = W ∧ Grew w W ∧ Six W w.heap.size a b c d e f ∧ Wet W w.heap.size := by
  refine ⟨_, rfl, (Grew.refl _).alloc _, ⟨by simp, ?_, ?_, ?_, ?_, ?_, ?_⟩, ?_, ?_, ?_, ?_, ?_, ?_⟩ <;> simp [go_sem]
theorem six_put {w w1 : World} (p : Nat) (g : Grew w w1) (hp : w.heap.size ≤ p) (a b c d e f : Value) :
    Grew w ((((((w1.setCell ⟨p, 0, none⟩ a).setCell ⟨p, 1, none⟩ b).setCell ⟨p, 2, none⟩ c).setCell ⟨p, 3, none⟩ d).setCell ⟨p, 4, none⟩ e).setCell ⟨p, 5, none⟩ f) :=
  (((((g.setCell hp _).setCell hp _).setCell hp _).setCell hp _).setCell hp _).setCell hp _

theorem civ_Of_bad (sec : Int) (w : World) (hs : -9223372036854775808 ≤ sec ∧ sec ≤ 9223372036854775807) (ht : Tab w) (hb : sec < 0 ∨ 9467107200 ≤ sec) :
    Calls Tryz.prog 9 #[.int .i64 sec] w fun e w' => e = .returned (.tuple #[moment 0 0 0 0 0 0, .int .i64 9]) ∧ Grew w w' := by
  have H1 := fun w ht => Lib.hid (civ_firstDay_one 2200 w (by omega) ht)
  rw [base_2200] at H1
  by_cases h1 : sec < 0
  · clear hb
    go_enter Tryz.func9, Tryz.ntmps9
    go_wp2_with fail
    refine bodyPost_ret (by simp [results, Tryz.results9, go_sem]; try rfl) rfl ?_
    exact ⟨rfl, by repeat (first | exact Grew.refl _ | apply Grew.drew | apply Grew.alloc)⟩
  · have h2 : 9467107200 ≤ sec := by omega
    clear hb
    go_enter Tryz.func9, Tryz.ntmps9
    go_wp2_with fail
    obtain ⟨W, hW, g0, x, f⟩ := six_wet w (.int .i64 0) (.int .i64 0) (.int .i64 0) (.int .i64 0) (.int .i64 0) (.int .i64 0) 27
    rw [hW]
    clear hW
    refine (H1 _ (ht.grew g0)).out.mono ?_
    rintro e w1 ⟨rfl, g1⟩
    obtain ⟨f0, f1, f2, f3, f4, f5⟩ := f.grew x.1 g1
    obtain ⟨_, c0, c1, c2, c3, c4, c5⟩ := x.grew g1
    go_wp2_with fail
    refine bodyPost_ret (by simp [results, Tryz.results9, go_sem, c0, c1, c2, c3, c4, c5]; try rfl) rfl ?_
    exact ⟨rfl, six_put _ (g0.trans g1) (Nat.le_refl _) _ _ _ _ _ _⟩

set_option maxHeartbeats 1000000 in
theorem civ_Of (sec : Int) (w : World) (hs : 0 ≤ sec ∧ sec < 9467107200) (ht : Tab w) :
    Calls Tryz.prog 9 #[.int .i64 sec] w fun e w' => ∃ (y : Int) (m : Nat), InMonth (sec / 86400) y m ∧
      e = .returned (.tuple #[moment y m (sec / 86400 - (base y + cum y (m - 1)) + 1) (sec % 86400 / 3600) (sec % 86400 % 3600 / 60) (sec % 86400 % 60), .int .i64 0]) ∧ Grew w w' := by
  have H1 := fun w ht => Lib.hid (civ_firstDay_one 2200 w (by omega) ht)
  rw [base_2200] at H1
  have H2 := fun w ht => Lib.hid (civ_date (sec / 86400) w (by omega) ht)
  have t1 : sec.tdiv 86400 = sec / 86400 := Int.tdiv_eq_ediv_of_nonneg hs.1
  have t2 : sec.tmod 86400 = sec % 86400 := Int.tmod_eq_emod_of_nonneg hs.1
  have hR : 0 ≤ sec % 86400 ∧ sec % 86400 < 86400 := by omega
  have hN : 0 ≤ sec / 86400 ∧ sec / 86400 < 109573 := by omega
  generalize sec % 86400 = R at *
  generalize sec / 86400 = N at *
  have t3 : R.tdiv 3600 = R / 3600 := Int.tdiv_eq_ediv_of_nonneg hR.1
  have t4 : R.tmod 3600 = R % 3600 := Int.tmod_eq_emod_of_nonneg hR.1
  have t5 : (R % 3600).tdiv 60 = R % 3600 / 60 := Int.tdiv_eq_ediv_of_nonneg (by omega)
  have t6 : R.tmod 60 = R % 60 := Int.tmod_eq_emod_of_nonneg hR.1
  go_enter Tryz.func9, Tryz.ntmps9
  go_wp2_with fail
  obtain ⟨W, hW, g0, x, f⟩ := six_wet w (.int .i64 0) (.int .i64 0) (.int .i64 0) (.int .i64 0) (.int .i64 0) (.int .i64 0) 27
  rw [hW]
  clear hW
  refine (H1 _ (ht.grew g0)).out.mono ?_
  rintro e w1 ⟨rfl, g1⟩
  clear H1
  go_wp2_with fail
  refine (H2 _ (ht.grew (g0.trans g1))).out.mono ?_
  rintro e w2 ⟨y, m, hin, rfl, g2⟩
  clear H2
  obtain ⟨f0, f1, f2, f3, f4, f5⟩ := f.grew x.1 (g1.trans g2)
  obtain ⟨_, c0, c1, c2, c3, c4, c5⟩ := x.grew (g1.trans g2)
  have hym : 1900 ≤ y ∧ y ≤ 2199 ∧ 1 ≤ m ∧ m ≤ 12 := ⟨hin.hy.1, hin.hy.2, hin.hm.1, hin.hm.2⟩
  obtain ⟨D, HD⟩ : ∃ D, Hid (N - (base y + cum y (m - 1)) + 1 = D) := ⟨_, Lib.hid rfl⟩
  rw [HD.out]
  go_wp2_with fail
  refine bodyPost_ret (by simp [results, Tryz.results9, go_sem, c0, c1, c2, c3, c4, c5]; try rfl) rfl ?_
  exact ⟨y, m, hin, by rw [HD.out], six_put _ ((g0.trans g1).trans g2) (Nat.le_refl _) _ _ _ _ _ _⟩
/- Contracts of the document's dates: leap years, lengths, numbers of dates. -/
theorem ref03_Leap (y : Int) (w : World) (hy : -9223372036854775808 ≤ y ∧ y ≤ 9223372036854775807) :
    Calls Tryz.prog 28 #[.int .i64 y] w fun e w' => e = .returned (.bool (leapOf y)) ∧ Grew w w' := by
  by_cases h : 1900 ≤ y ∧ y ≤ 2199
  · have t4 : y.tmod 4 = y % 4 := Int.tmod_eq_emod_of_nonneg (by omega)
    have t1 : y.tmod 100 = y % 100 := Int.tmod_eq_emod_of_nonneg (by omega)
    have t2 : y.tmod 400 = y % 400 := Int.tmod_eq_emod_of_nonneg (by omega)
    go_enter Tryz.func28, Tryz.ntmps28
    go_wp2
    all_goals go_ret
    all_goals (refine ⟨ret_bool ?_, Grew.refl _⟩; clear t4 t1 t2; rw [Bool.eq_iff_iff]; simp [leapOf])
    all_goals simp only [beq_eq_false_iff_ne, beq_iff_eq, ne_eq] at *
    all_goals omega
  · have e : leapOf y = false := by simp [leapOf]; omega
    rw [e]
    rcases (show y < 1900 ∨ 2199 < y by omega) with h | h
    all_goals
      go_enter Tryz.func28, Tryz.ntmps28
      go_wp2
      all_goals go_ret
      all_goals exact ⟨rfl, Grew.refl _⟩

set_option maxHeartbeats 1000000 in
theorem ref03_Length_tab (y : Int) (k : Nat) (w : World) (hy : 1900 ≤ y ∧ y ≤ 2199) (hk : 1 ≤ k ∧ k ≤ 12) :
    Calls Tryz.prog 12 #[.int .i64 y, .int .i64 (k : Nat)] w fun e w' => e = .returned (.int .i64 (lenOf y k)) ∧ Grew w w' := by
  have e : ∀ m : Int, 1 ≤ m → m ≤ 12 → lenOf y m = if m = 2 ∧ leapOf y = true then 29 else lenTab m := fun m h1 h2 => by
    unfold lenOf; rw [if_pos ⟨hy, h1, h2⟩]
  have H2 := fun w => Lib.hid (ref03_Leap y w (by omega))
  rw [e k (by omega) (by omega)]
  clear e
  obtain ⟨j, rfl⟩ : ∃ j, k = j + 1 := ⟨k - 1, by omega⟩
  have hj : j < 12 := by omega
  clear hk
  match j, hj with
  | 1, _ =>
    cases hl : leapOf y <;> rw [hl] at H2 <;> clear hl
    all_goals
      go_enter Tryz.func12, Tryz.ntmps12
      go_wp2_with fail
      refine (H2 _).out.mono ?_
      rintro e w2 ⟨rfl, g2⟩
      go_wp2
      all_goals go_ret
      all_goals exact ⟨rfl, g2⟩
  | 0, _ | 2, _ | 3, _ | 4, _ | 5, _ | 6, _ | 7, _ | 8, _ | 9, _ | 10, _ | 11, _ =>
    clear H2
    go_enter Tryz.func12, Tryz.ntmps12
    go_wp2
    all_goals go_ret
    all_goals exact ⟨rfl, Grew.refl _⟩

set_option maxHeartbeats 1000000 in
theorem ref03_Length_none (y m : Int) (w : World) (hy : -9223372036854775808 ≤ y ∧ y ≤ 9223372036854775807) (hm : -9223372036854775808 ≤ m ∧ m ≤ 9223372036854775807) (h : ¬(1900 ≤ y ∧ y ≤ 2199) ∨ ((1900 ≤ y ∧ y ≤ 2199) ∧ (m < 1 ∨ 12 < m))) :
    Calls Tryz.prog 12 #[.int .i64 y, .int .i64 m] w fun e w' => e = .returned (.int .i64 0) ∧ Grew w w' := by
  rcases h with h | ⟨h, h'⟩
  · rcases (show y < 1900 ∨ 2199 < y by omega) with h | h
    all_goals
      go_enter Tryz.func12, Tryz.ntmps12
      go_wp2
      all_goals go_ret
      all_goals exact ⟨rfl, Grew.refl _⟩
  · have n1 : ¬m = 1 := by omega
    have n2 : ¬m = 2 := by omega
    have n3 : ¬m = 3 := by omega
    have n4 : ¬m = 4 := by omega
    have n5 : ¬m = 5 := by omega
    have n6 : ¬m = 6 := by omega
    have n7 : ¬m = 7 := by omega
    have n8 : ¬m = 8 := by omega
    have n9 : ¬m = 9 := by omega
    have n10 : ¬m = 10 := by omega
    have n11 : ¬m = 11 := by omega
    have n12 : ¬m = 12 := by omega
    clear h'
    go_enter Tryz.func12, Tryz.ntmps12
    go_wp2
    all_goals go_ret
    all_goals exact ⟨rfl, Grew.refl _⟩

theorem ref03_Length (y m : Int) (w : World) (hy : -9223372036854775808 ≤ y ∧ y ≤ 9223372036854775807) (hm : -9223372036854775808 ≤ m ∧ m ≤ 9223372036854775807) :
    Calls Tryz.prog 12 #[.int .i64 y, .int .i64 m] w fun e w' => e = .returned (.int .i64 (lenOf y m)) ∧ Grew w w' := by
  have hi : isYr y = true ↔ 1900 ≤ y ∧ y ≤ 2199 := by simp [isYr]
  by_cases h : 1900 ≤ y ∧ y ≤ 2199
  · by_cases h1 : m < 1 ∨ 12 < m
    · rw [len_none y m (.inr h1)]; exact ref03_Length_none y m w hy hm (.inr ⟨h, h1⟩)
    · obtain ⟨k, rfl⟩ := Int.eq_ofNat_of_zero_le (show 0 ≤ m by omega)
      exact ref03_Length_tab y k w h (by omega)
  · rw [len_none y m (.inl fun e => h (hi.1 e))]; exact ref03_Length_none y m w hy hm (.inl h)


/- The known answers of civil; the walk of the law on dates. -/

/- Contracts of the document's seconds and moments. -/
theorem ret_pair_int {k l : IntKind} {a b : Int} {v : Value} (h : a = b) : Ending.returned (.tuple #[.int k a, v]) = .returned (.tuple #[.int k b, v]) := by rw [h]



theorem ref03_Of_none (sec : Int) (w : World) (hs : -9223372036854775808 ≤ sec ∧ sec ≤ 9223372036854775807) (hb : sec < 0 ∨ 20000000000 ≤ sec) :
    Calls Tryz.prog 5 #[.int .i64 sec] w fun e w' => e = .returned (.tuple #[moment 0 0 0 0 0 0, .bool false]) ∧ Grew w w' := by
  rcases hb with hb | hb
  all_goals
    go_enter Tryz.func5, Tryz.ntmps5
    go_wp2_with fail
    refine bodyPost_ret (by simp [results, Tryz.results5, go_sem]; try rfl) rfl ?_
    exact ⟨rfl, by repeat (first | exact Grew.refl _ | apply Grew.drew | apply Grew.alloc)⟩
end Go.Proofs.YtlcmjedbdopglaaGreatDoor

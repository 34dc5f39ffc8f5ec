/-
  Plain numbers of leap seconds: one line of each second, GPS of UTC. Nothing of the program.
-/
import Derived.Test.YtnfijelcnemgbaaDoorLeapB
namespace Go.Proofs.YtnfijelcnemgbaaDoor
open Go.RowKit
set_option linter.unusedVariables false

theorem lines_apart : ∀ i j : Fin 19, i.val < j.val → lineG i + 1000 ≤ lineG j ∧ lineU i + 1000 ≤ lineU j := by decide +kernel
theorem lineG_0 : lineG 0 = 0 := rfl
theorem lineU_0 : lineU 0 = 2524953600 := rfl
theorem lineU_top : ∀ i : Fin 19, lineU i ≤ 3692217600 := by decide +kernel

/-- A GPS second's line; a UTC second's line. -/
def GLine (g : Int) (i : Nat) : Prop := i ≤ 18 ∧ lineG i ≤ g ∧ ∀ j, j ≤ 18 → i < j → g < lineG j
def ULine (s : Int) (i : Nat) : Prop := i ≤ 18 ∧ lineU i ≤ s ∧ ∀ j, j ≤ 18 → i < j → s < lineU j

theorem offTill_line (g : Int) : ∀ n, n ≤ 19 → 0 < n → 0 ≤ g → ∃ i : Nat, i < n ∧ offTill g n = i ∧ lineG i ≤ g ∧ ∀ j, j < n → i < j → g < lineG j
  | 0, _, h, _ => by omega
  | n + 1, hn, _, hg => by
    unfold offTill
    by_cases h : lineG n ≤ g
    · rw [if_pos h]; exact ⟨n, by omega, rfl, h, fun j h1 h2 => by omega⟩
    · rw [if_neg h]
      by_cases h0 : n = 0
      · subst h0; rw [lineG_0] at h; omega
      · obtain ⟨i, h1, h2, h3, h4⟩ := offTill_line g n (by omega) (by omega) hg
        refine ⟨i, by omega, h2, h3, fun j hj1 hj2 => ?_⟩
        by_cases e : j = n
        · subst e; omega
        · exact h4 j (by omega) hj2
theorem off_line (g : Int) (hg : 0 ≤ g) : ∃ i : Nat, offOf g = i ∧ GLine g i := by
  obtain ⟨i, h1, h2, h3, h4⟩ := offTill_line g 19 (by omega) (by omega) hg
  exact ⟨i, h2, by omega, h3, fun j hj hij => h4 j (by omega) hij⟩
theorem GLine.unique {g : Int} {i j : Nat} (a : GLine g i) (b : GLine g j) : i = j := by
  rcases Nat.lt_trichotomy i j with h | h | h
  · have := a.2.2 j b.1 h; have := b.2.1; omega
  · exact h
  · have := b.2.2 i a.1 h; have := a.2.1; omega
theorem ULine.unique {s : Int} {i j : Nat} (a : ULine s i) (b : ULine s j) : i = j := by
  rcases Nat.lt_trichotomy i j with h | h | h
  · have := a.2.2 j b.1 h; have := b.2.1; omega
  · exact h
  · have := b.2.2 i a.1 h; have := a.2.1; omega
theorem GLine.off {g : Int} {i : Nat} (a : GLine g i) : offOf g = i := by
  have h0 : 0 ≤ g := by have := (lineG_bound ⟨i, by have := a.1; omega⟩).1; have := a.2.1; simp only at *; omega
  obtain ⟨j, h1, h2⟩ := off_line g h0
  rw [h1, a.unique h2]
theorem u_line (s : Int) (hs : 2524953600 ≤ s) : ∃ i, ULine s i := by
  have h : ∀ n, n ≤ 19 → 0 < n → ∃ i, i < n ∧ lineU i ≤ s ∧ ∀ j, j < n → i < j → s < lineU j := by
    intro n
    induction n with
    | zero => intro _ h; omega
    | succ n ih =>
      intro hn _
      by_cases h : lineU n ≤ s
      · exact ⟨n, by omega, h, fun j h1 h2 => by omega⟩
      · by_cases h0 : n = 0
        · subst h0; rw [lineU_0] at h; omega
        · obtain ⟨i, h1, h2, h3⟩ := ih (by omega) (by omega)
          refine ⟨i, by omega, h2, fun j hj1 hj2 => ?_⟩
          by_cases e : j = n
          · subst e; omega
          · exact h3 j (by omega) hj2
  obtain ⟨i, h1, h2, h3⟩ := h 19 (by omega) (by omega)
  exact ⟨i, by omega, h2, fun j hj hij => h3 j (by omega) hij⟩

theorem leap_iff (g : Int) : ∀ n, leapTill g n = true ↔ ∃ i, 1 ≤ i ∧ i ≤ n ∧ lineG i - 1 = g
  | 0 => by simp [leapTill]; intro i h1 h2; omega
  | n + 1 => by
    rw [leapTill, Bool.or_eq_true, leap_iff g n]
    constructor
    · rintro (⟨i, h1, h2, h3⟩ | h)
      · exact ⟨i, h1, by omega, h3⟩
      · exact ⟨n + 1, by omega, by omega, by simpa using h⟩
    · rintro ⟨i, h1, h2, h3⟩
      by_cases e : i = n + 1
      · subst e; right; simpa using h3
      · left; exact ⟨i, h1, by omega, h3⟩
theorem leapOfG_iff (g : Int) : leapOfG g = true ↔ ∃ i, 1 ≤ i ∧ i ≤ 18 ∧ lineG i - 1 = g := leap_iff g 18

/-- Near the seconds of a UTC second's line. -/
theorem near_line {s : Int} {i j : Nat} (h : ULine s i) (hj : j ≤ 18) (hg : offOf (s - 2524953600 + j) = j) : j = i ∨ (j + 1 = i ∧ s = lineU i) := by
  have h18 := h.1
  have hU := h.2.1
  have e : ∀ k, lineG k = lineU k - 2524953600 + k := fun k => rfl
  have h0 : 2524953600 ≤ s := by
    by_cases hi : i = 0
    · subst hi; rw [lineU_0] at hU; exact hU
    · have := (lines_apart ⟨0, by omega⟩ ⟨i, by omega⟩ (by simp only; omega)).2
      simp only [lineU_0] at this; omega
  obtain ⟨k, hk, gl⟩ := off_line (s - 2524953600 + j) (by omega)
  have ekj : k = j := by omega
  subst ekj
  rcases Nat.lt_trichotomy k i with hlt | heq | hgt
  · right
    have h1 := gl.2.2 i h18 hlt
    rw [e i] at h1
    by_cases h2 : k + 1 = i
    · exact ⟨h2, by omega⟩
    · have h3 := gl.2.2 (k + 1) (by omega) (by omega)
      have h4 := (lines_apart ⟨k + 1, by omega⟩ ⟨i, by omega⟩ (by simp only; omega)).2
      simp only at h4
      rw [e (k + 1)] at h3
      omega
  · exact .inl heq
  · exfalso
    have h1 := h.2.2 k hj hgt
    have h2 := gl.2.1
    rw [e k] at h2
    omega
theorem ULine.g {s : Int} {i : Nat} (h : ULine s i) : GLine (s - 2524953600 + i) i := by
  have e : ∀ k, lineG k = lineU k - 2524953600 + k := fun k => rfl
  refine ⟨h.1, by rw [e i]; have := h.2.1; omega, fun j hj hij => ?_⟩
  have := h.2.2 j hj hij
  rw [e j]; omega
theorem ULine.not_leap {s : Int} {i : Nat} (h : ULine s i) : leapOfG (s - 2524953600 + i) = false := by
  have e : ∀ k, lineG k = lineU k - 2524953600 + k := fun k => rfl
  rw [Bool.eq_false_iff]
  intro hl
  obtain ⟨j, h1, h2, h3⟩ := (leapOfG_iff _).1 hl
  rw [e j] at h3
  rcases Nat.lt_or_ge i j with hij | hij
  · have := h.2.2 j h2 hij; omega
  · have hU := h.2.1
    by_cases hx : j = i
    · subst hx; omega
    · have := (lines_apart ⟨j, by omega⟩ ⟨i, by have := h.1; omega⟩ (by simp only; omega)).2
      simp only at this; omega
theorem leap_at (i : Nat) (h : 1 ≤ i ∧ i ≤ 18) : GLine (lineG i - 1) (i - 1) ∧ leapOfG (lineG i - 1) = true := by
  refine ⟨⟨by omega, ?_, fun j hj hij => ?_⟩, (leapOfG_iff _).2 ⟨i, h.1, h.2, rfl⟩⟩
  · have := (lines_apart ⟨i - 1, by omega⟩ ⟨i, by omega⟩ (by simp only; omega)).1; simp only at this; omega
  · by_cases e : j = i
    · subst e; omega
    · have := (lines_apart ⟨i, by omega⟩ ⟨j, by omega⟩ (by simp only; omega)).1; simp only at this; omega

theorem scan_hit (sec : Int) (leap : Bool) : ∀ (n m : Nat) (g : Int), m < n → (∀ t : Nat, t < m → gpsHit sec leap (g + t) = false) → gpsHit sec leap (g + m) = true → gpsScan sec leap g n = (g + m, 0)
  | 0, m, g, h, _, _ => by omega
  | n + 1, 0, g, _, _, h2 => by rw [gpsScan, if_pos (by simpa using h2)]; simp
  | n + 1, m + 1, g, h, h1, h2 => by
    have h0 := h1 0 (by omega)
    rw [gpsScan, if_neg (by simpa using h0)]
    have := scan_hit sec leap n m (g + 1) (by omega) (fun t ht => by have := h1 (t + 1) (by omega); rw [show g + 1 + (t : Int) = g + ((t + 1 : Nat) : Int) by omega]; exact this) (by rw [show g + 1 + (m : Int) = g + ((m + 1 : Nat) : Int) by omega]; exact h2)
    rw [this]
    congr 1
    omega
theorem scan_none (sec : Int) (leap : Bool) : ∀ (n : Nat) (g : Int), (∀ t : Nat, t < n → gpsHit sec leap (g + t) = false) → gpsScan sec leap g n = (0, 5)
  | 0, g, _ => rfl
  | n + 1, g, h1 => by
    have h0 := h1 0 (by omega)
    rw [gpsScan, if_neg (by simpa using h0)]
    exact scan_none sec leap n (g + 1) (fun t ht => by have := h1 (t + 1) (by omega); rw [show g + 1 + (t : Int) = g + ((t + 1 : Nat) : Int) by omega]; exact this)

theorem hit_iff (sec : Int) (leap : Bool) (j : Nat) : gpsHit sec leap (sec - 2524953600 + j) = true ↔ (0 ≤ sec - 2524953600 + j ∧ sec - 2524953600 + j ≤ 6000000000) ∧ offOf (sec - 2524953600 + j) = j ∧ leapOfG (sec - 2524953600 + j) = leap := by
  unfold gpsHit inGps utcOf
  simp only [Bool.and_eq_true, decide_eq_true_eq, beq_iff_eq]
  constructor
  · rintro ⟨h1, h2, h3⟩; exact ⟨h1, by omega, h3⟩
  · rintro ⟨h1, h2, h3⟩; exact ⟨h1, by omega, h3⟩

/-- GPS of UTC, in one line's words. -/
theorem gps_form (sec : Int) (leap : Bool) (i : Nat) (h : ULine sec i) (h9 : sec ≤ 9000000000) :
    gpsOf sec leap = if 6000000000 < sec - 2524953600 + i then (0, 9) else if leap = false then (sec - 2524953600 + i, 0) else if 1 ≤ i ∧ sec = lineU i then (sec - 2524953600 + i - 1, 0) else (0, 5) := by
  have hU := h.2.1
  have h18 := h.1
  have hE : 2524953600 ≤ lineU i := by
    by_cases hi : i = 0
    · subst hi; exact Int.le_refl _
    · have := (lines_apart ⟨0, by omega⟩ ⟨i, by omega⟩ (by simp only; omega)).2
      simp only [lineU_0] at this; omega
  have e : ∀ k, lineG k = lineU k - 2524953600 + k := fun k => rfl
  have hlate : (6000000000 < sec - 2524953600 + offOf (sec - 2524953600 + 18)) ↔ 6000000000 < sec - 2524953600 + i := by
    have ho := offTill_le (sec - 2524953600 + 18) 19 (by omega)
    rw [show offTill (sec - 2524953600 + 18) 19 = offOf (sec - 2524953600 + 18) from rfl] at ho
    by_cases hi : i = 18
    · subst hi
      have gl : GLine (sec - 2524953600 + 18) 18 := ⟨by omega, by rw [e 18]; omega, fun j h1 h2 => by omega⟩
      rw [gl.off]
    · have h1 := h.2.2 18 (by omega) (by omega)
      have h2 := lineU_top ⟨18, by omega⟩
      simp only at h2
      omega
  unfold gpsOf
  rw [if_neg (by omega)]
  by_cases hl : 6000000000 < sec - 2524953600 + i
  · rw [if_pos (hlate.2 hl), if_pos hl]
  · rw [if_neg (fun x => hl (hlate.1 x)), if_neg hl]
    have noHit : ∀ t : Nat, t < 19 → t ≠ i → (t + 1 = i → sec ≠ lineU i) → gpsHit sec leap (sec - 2524953600 + t) = false := fun t ht h1 h2 => by
      rw [Bool.eq_false_iff]
      intro hh
      obtain ⟨_, h3, _⟩ := (hit_iff sec leap t).1 hh
      rcases near_line h (by omega) h3 with h4 | ⟨h4, h5⟩
      · exact h1 h4
      · exact h2 h4 h5
    have atLine : gpsHit sec false (sec - 2524953600 + i) = true := (hit_iff sec false i).2 ⟨⟨by omega, by omega⟩, h.g.off, h.not_leap⟩
    have atLine' : gpsHit sec true (sec - 2524953600 + i) = false := by
      rw [Bool.eq_false_iff]; intro hh
      have := ((hit_iff sec true i).1 hh).2.2
      rw [h.not_leap] at this; cases this
    cases leap
    · rw [if_pos rfl]
      refine scan_hit sec false 19 i _ (by omega) (fun t ht => ?_) atLine
      by_cases h1 : t + 1 = i ∧ sec = lineU i
      · obtain ⟨h1, h2⟩ := h1
        rw [Bool.eq_false_iff]; intro hh
        have h3 := ((hit_iff sec false t).1 hh).2.2
        have h4 := (leap_at i ⟨by omega, by omega⟩).2
        rw [show lineG i - 1 = sec - 2524953600 + t by rw [e i]; omega] at h4
        rw [h4] at h3; cases h3
      · exact noHit t (by omega) (by omega) (fun h2 h3 => h1 ⟨h2, h3⟩)
    · rw [if_neg (by simp)]
      by_cases h1 : 1 ≤ i ∧ sec = lineU i
      · rw [if_pos h1]
        have la := leap_at i ⟨h1.1, h18⟩
        have ee : lineG i - 1 = sec - 2524953600 + ((i - 1 : Nat) : Int) := by rw [e i]; omega
        rw [ee] at la
        rw [scan_hit sec true 19 (i - 1) _ (by omega) (fun t ht => noHit t (by omega) (by omega) (fun h2 _ => by omega)) ((hit_iff sec true (i - 1)).2 ⟨⟨by omega, by omega⟩, la.1.off, la.2⟩)]
        congr 1
        omega
      · rw [if_neg h1]
        refine scan_none sec true 19 _ (fun t ht => ?_)
        by_cases h2 : t = i
        · subst h2; exact atLine'
        · exact noHit t ht h2 (fun h3 h4 => h1 ⟨by omega, h4⟩)
end Go.Proofs.YtnfijelcnemgbaaDoor

/-
  Contracts of the document's dates: leap years, lengths, numbers of dates.
-/
import Derived.Test.YtnfijelcnemgbaaDoorCivE
namespace Go.Proofs.YtnfijelcnemgbaaDoor
open Go.RowKit
set_option linter.unusedVariables false

theorem ref03_Leap (y : Int) (w : World) (hy : -9223372036854775808 ≤ y ∧ y ≤ 9223372036854775807) :
    Calls Tryd.prog 35 #[.int .i64 y] w fun e w' => e = .returned (.bool (leapOf y)) ∧ Grew w w' := by
  by_cases h : 1900 ≤ y ∧ y ≤ 2199
  · have t4 : y.tmod 4 = y % 4 := Int.tmod_eq_emod_of_nonneg (by omega)
    have t1 : y.tmod 100 = y % 100 := Int.tmod_eq_emod_of_nonneg (by omega)
    have t2 : y.tmod 400 = y % 400 := Int.tmod_eq_emod_of_nonneg (by omega)
    go_enter Tryd.func35, Tryd.ntmps35
    go_wp2
    all_goals go_ret
    all_goals (refine ⟨ret_bool ?_, Grew.refl _⟩; clear t4 t1 t2; rw [Bool.eq_iff_iff]; simp [leapOf])
    all_goals simp only [beq_eq_false_iff_ne, beq_iff_eq, ne_eq] at *
    all_goals omega
  · have e : leapOf y = false := by simp [leapOf]; omega
    rw [e]
    rcases (show y < 1900 ∨ 2199 < y by omega) with h | h
    all_goals
      go_enter Tryd.func35, Tryd.ntmps35
      go_wp2
      all_goals go_ret
      all_goals exact ⟨rfl, Grew.refl _⟩

set_option maxHeartbeats 1000000 in
theorem ref03_Length_tab (y : Int) (k : Nat) (w : World) (hy : 1900 ≤ y ∧ y ≤ 2199) (hk : 1 ≤ k ∧ k ≤ 12) :
    Calls Tryd.prog 32 #[.int .i64 y, .int .i64 (k : Nat)] w fun e w' => e = .returned (.int .i64 (lenOf y k)) ∧ Grew w w' := by
  have e : ∀ m : Int, 1 ≤ m → m ≤ 12 → lenOf y m = if m = 2 ∧ leapOf y = true then 29 else lenTab m := fun m h1 h2 => by
    unfold lenOf; rw [if_pos ⟨hy, h1, h2⟩]
  have H2 := fun w => Lib.hid (ref03_Leap y w (by omega))
  rw [e k (by omega) (by omega)]
  clear e
  obtain ⟨j, rfl⟩ : ∃ j, k = j + 1 := ⟨k - 1, by omega⟩
  have hj : j < 12 := by omega
  clear hk
  match j, hj with
  | 1, _ =>
    cases hl : leapOf y <;> rw [hl] at H2 <;> clear hl
    all_goals
      go_enter Tryd.func32, Tryd.ntmps32
      go_wp2_with fail
      refine (H2 _).out.mono ?_
      rintro e w2 ⟨rfl, g2⟩
      go_wp2
      all_goals go_ret
      all_goals exact ⟨rfl, g2⟩
  | 0, _ | 2, _ | 3, _ | 4, _ | 5, _ | 6, _ | 7, _ | 8, _ | 9, _ | 10, _ | 11, _ =>
    clear H2
    go_enter Tryd.func32, Tryd.ntmps32
    go_wp2
    all_goals go_ret
    all_goals exact ⟨rfl, Grew.refl _⟩

set_option maxHeartbeats 1000000 in
theorem ref03_Length_none (y m : Int) (w : World) (hy : -9223372036854775808 ≤ y ∧ y ≤ 9223372036854775807) (hm : -9223372036854775808 ≤ m ∧ m ≤ 9223372036854775807) (h : ¬(1900 ≤ y ∧ y ≤ 2199) ∨ ((1900 ≤ y ∧ y ≤ 2199) ∧ (m < 1 ∨ 12 < m))) :
    Calls Tryd.prog 32 #[.int .i64 y, .int .i64 m] w fun e w' => e = .returned (.int .i64 0) ∧ Grew w w' := by
  rcases h with h | ⟨h, h'⟩
  · rcases (show y < 1900 ∨ 2199 < y by omega) with h | h
    all_goals
      go_enter Tryd.func32, Tryd.ntmps32
      go_wp2
      all_goals go_ret
      all_goals exact ⟨rfl, Grew.refl _⟩
  · have n1 : ¬m = 1 := by omega
    have n2 : ¬m = 2 := by omega
    have n3 : ¬m = 3 := by omega
    have n4 : ¬m = 4 := by omega
    have n5 : ¬m = 5 := by omega
    have n6 : ¬m = 6 := by omega
    have n7 : ¬m = 7 := by omega
    have n8 : ¬m = 8 := by omega
    have n9 : ¬m = 9 := by omega
    have n10 : ¬m = 10 := by omega
    have n11 : ¬m = 11 := by omega
    have n12 : ¬m = 12 := by omega
    clear h'
    go_enter Tryd.func32, Tryd.ntmps32
    go_wp2
    all_goals go_ret
    all_goals exact ⟨rfl, Grew.refl _⟩

theorem ref03_Length (y m : Int) (w : World) (hy : -9223372036854775808 ≤ y ∧ y ≤ 9223372036854775807) (hm : -9223372036854775808 ≤ m ∧ m ≤ 9223372036854775807) :
    Calls Tryd.prog 32 #[.int .i64 y, .int .i64 m] w fun e w' => e = .returned (.int .i64 (lenOf y m)) ∧ Grew w w' := by
  have hi : isYr y = true ↔ 1900 ≤ y ∧ y ≤ 2199 := by simp [isYr]
  by_cases h : 1900 ≤ y ∧ y ≤ 2199
  · by_cases h1 : m < 1 ∨ 12 < m
    · rw [len_none y m (.inr h1)]; exact ref03_Length_none y m w hy hm (.inr ⟨h, h1⟩)
    · obtain ⟨k, rfl⟩ := Int.eq_ofNat_of_zero_le (show 0 ≤ m by omega)
      exact ref03_Length_tab y k w h (by omega)
  · rw [len_none y m (.inl fun e => h (hi.1 e))]; exact ref03_Length_none y m w hy hm (.inl h)

theorem ref03_Day_bad (y m d : Int) (w : World) (hy : -9223372036854775808 ≤ y ∧ y ≤ 9223372036854775807) (hm : -9223372036854775808 ≤ m ∧ m ≤ 9223372036854775807) (hd : -9223372036854775808 ≤ d ∧ d ≤ 9223372036854775807) (hb : d < 1 ∨ lenOf y m < d) :
    Calls Tryd.prog 29 #[.int .i64 y, .int .i64 m, .int .i64 d] w fun e w' => e = .returned (.tuple #[.int .i64 0, .bool false]) ∧ Grew w w' := by
  have H1 := fun w => Lib.hid (ref03_Length y m w hy hm)
  have hl := len_le y m
  generalize lenOf y m = l at *
  by_cases h1 : d < 1
  · go_enter Tryd.func29, Tryd.ntmps29
    go_wp2_with fail
    go_ret2
    exact ⟨rfl, Grew.refl _⟩
  · have h2 : l < d := by omega
    clear hb
    go_enter Tryd.func29, Tryd.ntmps29
    go_wp2_with fail
    refine (H1 _).out.mono ?_
    rintro e w1 ⟨rfl, g1⟩
    go_wp2_with fail
    go_ret2
    exact ⟨rfl, g1⟩

set_option maxHeartbeats 1000000 in
theorem ref03_Day (y : Int) (m : Nat) (d : Int) (w : World) (hy : 1900 ≤ y ∧ y ≤ 2199) (hm : 1 ≤ m ∧ m ≤ 12) (hd : 1 ≤ d ∧ d ≤ lenOf y m) :
    Calls Tryd.prog 29 #[.int .i64 y, .int .i64 (m : Nat), .int .i64 d] w fun e w' => e = .returned (.tuple #[.int .i64 (base y + cum y (m - 1) + d - 1), .bool true]) ∧ Grew w w' := by
  have H1 := fun w => Lib.hid (ref03_Length y m w (by omega) (by omega))
  have hl := len_le y m
  generalize lenOf y m = l at *
  go_enter Tryd.func29, Tryd.ntmps29
  go_wp2_with fail
  refine (H1 _).out.mono ?_
  rintro e w1 ⟨rfl, g1⟩
  clear H1
  go_wp2_with fail
  go_loopw [8, 9] (fun n i wr => ∃ z B : Int, i = .int .i64 z ∧ n = .int .i64 B ∧ 1900 ≤ z ∧ z ≤ y ∧ Hid (base z = B) ∧ 0 ≤ B ∧ B ≤ 120000 ∧ Grew w wr) (fun _ i _ => (y - intOf i).toNat)
  case atStart => exact ⟨1900, 0, rfl, rfl, by omega, by omega, Lib.hid base_1900, by omega, by omega, g1⟩
  case round =>
    clear g1
    obtain ⟨z, B, rfl, rfl, hz0, hz1, HB, hB0, hB1, hg⟩ := hrel
    go_wp2_with fail
    · have hlt : z < y := by assumption
      rw [decide_eq_true hlt]
      go_loopw [8, 10] (fun n i wr => ∃ (j : Nat) (c : Int), j ≤ 12 ∧ i = .int .i64 ((j : Int) + 1) ∧ n = .int .i64 (B + c) ∧ Hid (cum z j = c) ∧ Grew w wr) (fun _ i _ => 13 - (intOf i).toNat)
      case atStart => exact ⟨0, 0, by omega, rfl, by simp, Lib.hid rfl, hg⟩
      case round =>
        clear hg
        obtain ⟨j, c, hj, rfl, rfl, hc, hg⟩ := hrel
        have hcb : 0 ≤ c ∧ c ≤ 31 * j := by have := cum_le z j; rw [hc.out] at this; exact this
        have hlb := len_le z (j + 1)
        have hl := fun w => Lib.hid (ref03_Length z (j + 1) w (by omega) (by omega))
        obtain ⟨l, HL⟩ : ∃ l, Hid (lenOf z (j + 1) = l) := ⟨_, Lib.hid rfl⟩
        rw [HL.out] at hlb hl
        have hs : Hid (cum z (j + 1) = c + l) := by show _ = _; rw [cum_step, hc.out, HL.out]
        go_wp2_with (go_at_call 32; refine (hl _).out.mono ?_; rintro e w3 ⟨rfl, g3⟩)
        · go_roundw
          case rel => exact ⟨j + 1, c + l, by omega, by simp, by simp [Int.add_assoc], hs, hg.trans g3⟩
          case measure => simp [intOf]; omega
        · have e12 : j = 12 := by omega
          have HN : Hid (base (z + 1) = B + c) := by
            show _ = _; rw [base_next z ⟨by omega, by omega⟩, HB.out, ← hc.out, e12]
          have hN := HN.out
          have hN1 := base_le (z + 1) (by omega)
          have hN2 := base_ge (z + 1) (by omega)
          go_roundw
          case rel => exact ⟨z + 1, B + c, rfl, rfl, by omega, by omega, HN, by omega, by omega, hg⟩
          case measure => simp [intOf]; omega
    · rw [decide_eq_false (show ¬z < y by omega)]
      obtain rfl : z = y := by omega
      go_loopw [8, 11] (fun n i wr => ∃ (j : Nat) (c : Int), j + 1 ≤ m ∧ i = .int .i64 ((j : Int) + 1) ∧ n = .int .i64 (B + c) ∧ Hid (cum z j = c) ∧ Grew w wr) (fun _ i _ => m - (intOf i).toNat)
      case atStart => exact ⟨0, 0, by omega, rfl, by simp, Lib.hid rfl, hg⟩
      case round =>
        clear hg
        obtain ⟨j, c, hj, rfl, rfl, hc, hg⟩ := hrel
        have hcb : 0 ≤ c ∧ c ≤ 31 * j := by have := cum_le z j; rw [hc.out] at this; exact this
        have hlb := len_le z (j + 1)
        have hl := fun w => Lib.hid (ref03_Length z (j + 1) w (by omega) (by omega))
        obtain ⟨l, HL⟩ : ∃ l, Hid (lenOf z (j + 1) = l) := ⟨_, Lib.hid rfl⟩
        rw [HL.out] at hlb hl
        have hs : Hid (cum z (j + 1) = c + l) := by show _ = _; rw [cum_step, hc.out, HL.out]
        go_wp2_with (go_at_call 32; refine (hl _).out.mono ?_; rintro e w3 ⟨rfl, g3⟩)
        · go_roundw
          case rel => exact ⟨j + 1, c + l, by omega, by simp, by simp [Int.add_assoc], hs, hg.trans g3⟩
          case measure => simp [intOf]; omega
        · obtain rfl : m = j + 1 := by omega
          go_ret2
          refine ⟨?_, hg⟩
          rw [HB.out, show j + 1 - 1 = j by omega, hc.out]
          rfl
end Go.Proofs.YtnfijelcnemgbaaDoor

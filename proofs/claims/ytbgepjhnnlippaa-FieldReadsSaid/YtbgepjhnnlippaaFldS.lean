/-
  The document's fields: numbers, hex digits, points, numbers with places.
-/
import Derived.Test.YtbgepjhnnlippaaFldR
namespace Go.Proofs.Ytbgepjhnnlippaa
open Go.RowKit
set_option linter.unusedVariables false

theorem ret_two {k l : IntKind} {a b c d : Int} (h : a = c) (h2 : b = d) : Ending.returned (.tuple #[.int k a, .int l b]) = .returned (.tuple #[.int k c, .int l d]) := by rw [h, h2]
theorem digs_all {S : List Nat} {a b : Nat} (hb : b ≤ S.length) (h : digs S a b = true) : ∀ i, a ≤ i → i < b → isDig (wd S i) = true := ((digs_iff hb).1 h).2
set_option maxHeartbeats 1000000 in
theorem ref09_Int (s : ByteArray) (least most : Int) (w : World) (hs : s.size ≤ 1000) (h1 : -9223372036854775808 ≤ least ∧ least ≤ 9223372036854775807) (h2 : -9223372036854775808 ≤ most ∧ most ≤ 9223372036854775807) :
    Calls Try.prog 7 #[.string s, .int .i64 least, .int .i64 most] w fun e w' => e = .returned (.tuple #[.int .i64 (intAns (nat s) least most).1, .int .i64 ((intAns (nat s) least most).2 : Nat)]) ∧ w = w' := by
  have hl := nat_length s
  have HR := Lib.hid (ref09_read s w hs)
  have HD := Lib.hid (ref09_Digits s 0 s.size w hs (by omega) (Nat.le_refl _))
  have HA := fun j h w => Lib.hid (str_at s j h w)
  by_cases hr : readE (nat s) = 0
  · rw [hr] at HR
    cases hd : digs (nat s) 0 s.size
    · have hI : intAns (nat s) least most = (0, 5) := by unfold intAns; rw [if_neg (by omega), hl, if_pos hd]
      rw [hd] at HD
      rw [hI]
      clear hI hr hd hl HA
      go_enter Try.func7, Try.ntmps7
      go_wp2_with (first | (go_at_call 21; refine HR.out.mono ?_; rintro e w1 ⟨rfl, rfl⟩) | (go_at_call 22; refine HD.out.mono ?_; rintro e w1 ⟨rfl, rfl⟩))
      go_ret2
      exact ⟨rfl, rfl⟩
    · have h20 : s.size ≤ 20 := by unfold readE at hr; rw [hl] at hr; by_cases h : s.size = 0 <;> by_cases h' : 20 < s.size <;> simp_all <;> omega
      have hdig := digs_all (S := nat s) (by omega) hd
      have hI : intAns (nat s) least most = if (numOf (nat s) 0 s.size : Int) < least ∨ most < (numOf (nat s) 0 s.size : Int) then (0, 9) else ((numOf (nat s) 0 s.size : Int), 0) := by unfold intAns; rw [if_neg (by omega), hl, if_neg (by rw [hd]; simp)]
      have HI := Lib.hid hI
      rw [hd] at HD
      have HG := Lib.hid hdig
      have HB := fun j => Lib.hid (nat_lt s j)
      have HMO := fun k m h => Lib.hid (numOf_mono (nat s) 0 k m h)
      clear hI hr hd hl hdig
      go_enter Try.func7, Try.ntmps7
      go_wp2_with (first | (go_at_call 21; refine HR.out.mono ?_; rintro e w1 ⟨rfl, rfl⟩) | (go_at_call 22; refine HD.out.mono ?_; rintro e w1 ⟨rfl, rfl⟩))
      go_loop [9, 10] (fun n i => ∃ j : Nat, j ≤ s.size ∧ i = .int .i64 (j : Nat) ∧ n = .int .i64 (numOf (nat s) 0 j : Nat) ∧ numOf (nat s) 0 j ≤ 9223372036854775807) (fun _ i => s.size - (intOf i).toNat)
      case atStart => exact ⟨0, by omega, rfl, rfl, by simp [numOf]⟩
      case round =>
        obtain ⟨j, hj, rfl, rfl, hn⟩ := hrel
        by_cases hlt : j < s.size
        · have y := fun w => (HA j hlt w).out
          have hdj := HG.out j (by omega) hlt
          have hst : Hid (numOf (nat s) 0 (j + 1) = numOf (nat s) 0 j * 10 + (wd (nat s) j - 48)) := by show _ = _; rw [numOf, Nat.zero_add]
          have hMO := (HMO (j + 1) s.size (by omega)).out
          unfold isDig at hdj
          simp at hdj
          have m0 : (j : Int) < s.size := by omega
          have e1 : IntKind.u8.wrap (((wd (nat s) j : Nat) : Int) - 48) = ((wd (nat s) j - 48 : Nat) : Int) := by rw [IntWalk.u8_in _ (by omega)]; omega
          have e2 : IntKind.i64.wrap ((wd (nat s) j - 48 : Nat) : Int) = ((wd (nat s) j - 48 : Nat) : Int) := IntWalk.i64_in _ (by omega)
          generalize hnn : numOf (nat s) 0 j = n at *
          have hd9 : wd (nat s) j - 48 ≤ 9 := by omega
          generalize wd (nat s) j - 48 = d at *
          by_cases ho : 922337203685477580 < n ∨ (n = 922337203685477580 ∧ 7 < d)
          · have hbig : 9223372036854775807 < numOf (nat s) 0 s.size := by have := hst.out; omega
            have hI2 : Hid (intAns (nat s) least most = (0, 9)) := by show _ = _; rw [HI.out, if_pos (.inr (by omega))]
            clear hst hMO hbig HI HG HMO HA HB
            rcases ho with ho | ⟨ho, ho2⟩
            · have o1 : (922337203685477580 : Int) < n := by omega
              go_wp2_with fail
              go_ret2
              exact ⟨by rw [hI2.out]; rfl, rfl⟩
            · have o1 : ¬ (922337203685477580 : Int) < n := by omega
              have o2 : (n : Int) = 922337203685477580 := by omega
              have o3 : (7 : Int) < d := by omega
              subst ho
              go_wp2_with fail
              go_ret2
              exact ⟨by rw [hI2.out]; rfl, rfl⟩
          · have hle : n * 10 + d ≤ 9223372036854775807 := by omega
            have o1 : ¬ (922337203685477580 : Int) < n := by omega
            have e3 : IntKind.i64.wrap ((n : Int) * 10) = (n : Int) * 10 := IntWalk.i64_in _ (by omega)
            have e4 : IntKind.i64.wrap ((n : Int) * 10 + d) = (n : Int) * 10 + d := IntWalk.i64_in _ (by omega)
            have ho2 : ¬ (n = 922337203685477580 ∧ 7 < d) := fun h => ho (.inr h)
            clear hMO HI HG HMO HA HB
            by_cases h9 : n = 922337203685477580
            · have o3 : ¬ (7 : Int) < d := by omega
              have o4 : (n : Int) = 922337203685477580 := by omega
              go_wp2_with fail
              go_round
              case rel => exact ⟨j + 1, by omega, by simp, by rw [hst.out]; simp <;> omega, by rw [hst.out]; omega⟩
              case measure => simp [intOf]; omega
            · have o4 : ¬ (n : Int) = 922337203685477580 := by omega
              have o5 : ((n : Int) == 922337203685477580) = false := by simpa using o4
              go_wp2_with fail
              go_round
              case rel => exact ⟨j + 1, by omega, by simp, by rw [hst.out]; simp <;> omega, by rw [hst.out]; omega⟩
              case measure => simp [intOf]; omega
        · obtain rfl : j = s.size := by omega
          generalize numOf (nat s) 0 s.size = n at *
          have HI2 := HI.out
          clear HA HB HG HMO HI
          by_cases c1 : (n : Int) < least
          · rw [if_pos (.inl c1)] at HI2
            go_wp2_with fail
            go_ret2
            exact ⟨rfl, rfl⟩
          · by_cases c2 : most < (n : Int)
            · rw [if_pos (.inr c2)] at HI2
              go_wp2_with fail
              go_ret2
              exact ⟨rfl, rfl⟩
            · rw [if_neg (by omega)] at HI2
              go_wp2_with fail
              go_ret2
              exact ⟨rfl, rfl⟩
  · have hI : intAns (nat s) least most = (0, readE (nat s)) := by unfold intAns; rw [if_pos hr]
    rw [hI]
    have hr9 : readE (nat s) ≤ 9 := by unfold readE; repeat' split
                                       all_goals omega
    have r0 : ¬ (readE (nat s) : Int) = 0 := by omega
    have r1 : ((readE (nat s) : Int) == 0) = false := by simpa using r0
    clear hI hl HD HA hr
    generalize readE (nat s) = r at *
    go_enter Try.func7, Try.ntmps7
    go_wp2_with (go_at_call 21; refine HR.out.mono ?_; rintro e w1 ⟨rfl, rfl⟩)
    go_ret2
    exact ⟨rfl, rfl⟩

theorem readE_zero {s : ByteArray} (h : readE (nat s) = 0) : 1 ≤ s.size ∧ s.size ≤ 20 := by
  unfold readE at h
  rw [nat_length] at h
  by_cases h0 : s.size = 0
  · rw [if_pos h0] at h; omega
  · rw [if_neg h0] at h
    by_cases h1 : 20 < s.size
    · rw [if_pos h1] at h; omega
    · omega
theorem readE_le (S : List Nat) : readE S ≤ 9 := by unfold readE; repeat' split
                                                    all_goals omega
theorem all_iff {S : List Nat} {p : Nat → Bool} : S.all p = true ↔ ∀ i, i < S.length → p (wd S i) = true := by
  rw [List.all_eq_true]
  refine ⟨fun h i hi => by rw [wd_lt hi]; exact h _ (List.getElem_mem hi), fun h x hx => ?_⟩
  obtain ⟨i, hi, rfl⟩ := List.getElem_of_mem hx
  have := h i hi
  rwa [wd_lt hi] at this
set_option maxHeartbeats 2000000 in
theorem ref09_Hex (s : ByteArray) (w : World) (hs : s.size ≤ 1000) :
    Calls Try.prog 13 #[.string s] w fun e w' => e = .returned (.tuple #[.int .i64 (hexOf (nat s)).1, .int .i64 ((hexOf (nat s)).2 : Nat)]) ∧ w = w' := by
  have hl := nat_length s
  have HR := Lib.hid (ref09_read s w hs)
  have HA := fun j h w => Lib.hid (str_at s j h w)
  by_cases hr : readE (nat s) = 0
  · rw [hr] at HR
    have hz := readE_zero hr
    have hI : hexOf (nat s) = if (nat s).all isHex = false then (0, 5) else if 15 < s.size then (0, 3) else (((hexTo (nat s) s.size : Nat) : Int), 0) := by unfold hexOf; rw [if_neg (by omega), hl]
    have HI := Lib.hid hI
    have HALL := Lib.hid (all_iff (S := nat s) (p := isHex))
    have HL := Lib.hid hl
    have HT := fun k h => Lib.hid (hexTo_lt (nat s) k h)
    clear hI hr hl
    go_enter Try.func13, Try.ntmps13
    go_wp2_with (go_at_call 21; refine HR.out.mono ?_; rintro e w1 ⟨rfl, rfl⟩)
    go_loop [5, 6] (fun n i => ∃ (j : Nat) (x : Int), j ≤ s.size ∧ i = .int .i64 (j : Nat) ∧ n = .int .i64 x ∧ Hid (j ≤ 15 → x = (hexTo (nat s) j : Nat)) ∧ Hid (∀ q : Nat, q < j → isHex (wd (nat s) q) = true)) (fun _ i => s.size - (intOf i).toNat)
    case atStart => exact ⟨0, 0, by omega, rfl, rfl, fun _ => by simp [hexTo], fun q hq => by omega⟩
    case round =>
      obtain ⟨j, x, hj, rfl, rfl, hX, hM⟩ := hrel
      by_cases hlt : j < s.size
      · have y := fun w => (HA j hlt w).out
        have m0 : (j : Int) < s.size := by omega
        have hst : Hid (hexTo (nat s) (j + 1) = hexTo (nat s) j * 16 + hexv (wd (nat s) j)) := rfl
        by_cases hh : isHex (wd (nat s) j) = true
        · have HS : Hid (∀ q : Nat, q < j + 1 → isHex (wd (nat s) q) = true) := fun q hq => by
            rcases Nat.lt_or_ge q j with h | h
            · exact hM.out q h
            · obtain rfl : q = j := by omega
              exact hh
          have hlt16 : Hid (j < 15 → hexTo (nat s) j < 16 ^ 14) := fun h => Nat.lt_of_lt_of_le ((HT j hM.out).out) (Nat.pow_le_pow_right (by omega) (by omega))
          unfold isHex at hh
          simp at hh
          by_cases hdig : wd (nat s) j ≤ 57
          · have d1 : (48 : Int) ≤ (wd (nat s) j : Nat) := by omega
            have d2 : ((wd (nat s) j : Nat) : Int) ≤ 57 := by omega
            have e1 : IntKind.u8.wrap (((wd (nat s) j : Nat) : Int) - 48) = ((wd (nat s) j : Nat) : Int) - 48 := IntWalk.u8_in _ (by omega)
            have e2 : IntKind.i64.wrap (((wd (nat s) j : Nat) : Int) - 48) = ((wd (nat s) j : Nat) : Int) - 48 := IntWalk.i64_in _ (by omega)
            have hv : Hid (hexv (wd (nat s) j) = wd (nat s) j - 48) := by show _ = _; unfold hexv; rw [if_pos hdig]
            by_cases h15 : j < 15
            · have hx := hX.out (by omega)
              have hb := hlt16.out h15
              have e3 : IntKind.i64.wrap (x * 16) = x * 16 := IntWalk.i64_in _ (by omega)
              have e4 : IntKind.i64.wrap (x * 16 + (((wd (nat s) j : Nat) : Int) - 48)) = x * 16 + (((wd (nat s) j : Nat) : Int) - 48) := IntWalk.i64_in _ (by omega)
              have hx2 := Lib.hid hx
              clear hX hM hh HA HI HALL HT hx hb hlt16
              go_wp2_with fail
              go_round
              case rel => exact ⟨j + 1, _, by omega, by simp, rfl, fun _ => by rw [hst.out, hv.out, hx2.out]; omega, HS⟩
              case measure => simp [intOf]; omega
            · clear hX hM hh HA HI HALL HT hlt16
              go_wp2_with fail
              go_round
              case rel => exact ⟨j + 1, _, by omega, by simp, rfl, fun h => by omega, HS⟩
              case measure => simp [intOf]; omega
          · have d1 : (65 : Int) ≤ (wd (nat s) j : Nat) := by omega
            have d2 : ((wd (nat s) j : Nat) : Int) ≤ 70 := by omega
            have d3 : ¬ ((wd (nat s) j : Nat) : Int) ≤ 57 := by omega
            have d4 : (48 : Int) ≤ (wd (nat s) j : Nat) := by omega
            have e1 : IntKind.u8.wrap (((wd (nat s) j : Nat) : Int) - 65) = ((wd (nat s) j : Nat) : Int) - 65 := IntWalk.u8_in _ (by omega)
            have e2 : IntKind.i64.wrap (((wd (nat s) j : Nat) : Int) - 65) = ((wd (nat s) j : Nat) : Int) - 65 := IntWalk.i64_in _ (by omega)
            have hv : Hid (hexv (wd (nat s) j) = wd (nat s) j - 55) := by show _ = _; unfold hexv; rw [if_neg hdig]
            by_cases h15 : j < 15
            · have hx := hX.out (by omega)
              have hb := hlt16.out h15
              have e3 : IntKind.i64.wrap (x * 16) = x * 16 := IntWalk.i64_in _ (by omega)
              have e4 : IntKind.i64.wrap (x * 16 + (((wd (nat s) j : Nat) : Int) - 65)) = x * 16 + (((wd (nat s) j : Nat) : Int) - 65) := IntWalk.i64_in _ (by omega)
              have e5 : IntKind.i64.wrap (x * 16 + (((wd (nat s) j : Nat) : Int) - 65) + 10) = x * 16 + (((wd (nat s) j : Nat) : Int) - 65) + 10 := IntWalk.i64_in _ (by omega)
              have hx2 := Lib.hid hx
              clear hX hM hh HA HI HALL HT hx hb hlt16
              go_wp2_with fail
              go_round
              case rel => exact ⟨j + 1, _, by omega, by simp, rfl, fun _ => by rw [hst.out, hv.out, hx2.out]; omega, HS⟩
              case measure => simp [intOf]; omega
            · clear hX hM hh HA HI HALL HT hlt16
              go_wp2_with fail
              go_round
              case rel => exact ⟨j + 1, _, by omega, by simp, rfl, fun h => by omega, HS⟩
              case measure => simp [intOf]; omega
        · have hI2 : Hid (hexOf (nat s) = (0, 5)) := by
            show _ = _
            rw [HI.out, if_pos]
            rw [← Bool.not_eq_true, HALL.out]
            exact fun h => hh (h j (by rw [HL.out]; exact hlt))
          unfold isHex at hh
          simp at hh
          have hcase : wd (nat s) j < 48 ∨ (57 < wd (nat s) j ∧ wd (nat s) j < 65) ∨ 70 < wd (nat s) j := by omega
          clear hX hM hh HA HI HALL HT
          generalize wd (nat s) j = c at *
          rcases hcase with h | ⟨h, h'⟩ | h
          all_goals go_wp2_with fail
          all_goals go_ret2
          all_goals exact ⟨by rw [hI2.out]; rfl, rfl⟩
      · obtain rfl : j = s.size := by omega
        have hall : Hid ((nat s).all isHex = true) := by show _ = _; rw [HALL.out]; exact fun i hi => hM.out i (by rw [HL.out] at hi; exact hi)
        by_cases h15 : 15 < s.size
        · have hI2 : Hid (hexOf (nat s) = (0, 3)) := by show _ = _; rw [HI.out, if_neg (by rw [hall.out]; simp), if_pos h15]
          have m1 : (15 : Int) < s.size := by omega
          clear hX hM HA HI HALL HT hall
          go_wp2_with fail
          go_ret2
          exact ⟨by rw [hI2.out]; rfl, rfl⟩
        · have hI2 : Hid (hexOf (nat s) = (((hexTo (nat s) s.size : Nat) : Int), 0)) := by show _ = _; rw [HI.out, if_neg (by rw [hall.out]; simp), if_neg h15]
          have m1 : ¬ (15 : Int) < s.size := by omega
          have hx := Lib.hid (hX.out (by omega))
          clear hX hM HA HI HALL HT hall
          go_wp2_with fail
          go_ret2
          exact ⟨by rw [hI2.out, ← hx.out]; rfl, rfl⟩
  · have hI : hexOf (nat s) = (0, readE (nat s)) := by unfold hexOf; rw [if_pos hr]
    rw [hI]
    have hr9 := readE_le (nat s)
    have r0 : ¬ (readE (nat s) : Int) = 0 := by omega
    have r1 : ((readE (nat s) : Int) == 0) = false := by simpa using r0
    clear hI hl HA hr
    generalize readE (nat s) = r at *
    go_enter Try.func13, Try.ntmps13
    go_wp2_with (go_at_call 21; refine HR.out.mono ?_; rintro e w1 ⟨rfl, rfl⟩)
    go_ret2
    exact ⟨rfl, rfl⟩

theorem ref09_point (s : ByteArray) (w : World) (hs : s.size ≤ 1000) :
    Calls Try.prog 26 #[.string s] w fun e w' => e = .returned (.int .i64 (pointOf (nat s) : Nat)) ∧ w = w' := by
  have hl := nat_length s
  have HA := fun j h w => Lib.hid (str_at s j h w)
  have HP := fun n h h2 h3 => Lib.hid (point_at (nat s) n h h2 h3)
  go_enter Try.func26, Try.ntmps26
  go_wp2_with fail
  go_loop [3] (fun i => ∃ j : Nat, j ≤ s.size ∧ i = .int .i64 (j : Nat) ∧ Hid (∀ q : Nat, q < j → wd (nat s) q ≠ 46)) (fun i => s.size - (intOf i).toNat)
  case atStart => exact ⟨0, by omega, rfl, fun q hq => by omega⟩
  case round =>
    obtain ⟨j, hj, rfl, hM⟩ := hrel
    by_cases hlt : j < s.size
    · have y := fun w => (HA j hlt w).out
      have m0 : (j : Int) < s.size := by omega
      by_cases h46 : wd (nat s) j = 46
      · have hI := HP j hM.out (by omega) (.inr h46)
        have e1 : ((wd (nat s) j : Nat) : Int) = 46 := by omega
        clear hM HA HP h46
        generalize wd (nat s) j = c at *
        go_wp2_with fail
        go_ret
        exact ⟨by rw [hI.out]; rfl, rfl⟩
      · have HS : Hid (∀ q : Nat, q < j + 1 → wd (nat s) q ≠ 46) := fun q hq => by
          rcases Nat.lt_or_ge q j with h | h
          · exact hM.out q h
          · obtain rfl : q = j := by omega
            exact h46
        have e1 : ¬ ((wd (nat s) j : Nat) : Int) = 46 := by omega
        have e2 : (((wd (nat s) j : Nat) : Int) == 46) = false := by simpa using e1
        clear hM HA HP h46
        generalize wd (nat s) j = c at *
        go_wp2_with fail
        go_round
        case rel => exact ⟨j + 1, by omega, by simp, HS⟩
        case measure => simp [intOf]; omega
    · obtain rfl : j = s.size := by omega
      have hI := HP s.size hM.out (by omega) (.inl (by omega))
      clear hM HA HP
      go_wp2_with fail
      go_ret
      exact ⟨by rw [hI.out]; rfl, rfl⟩
end Go.Proofs.Ytbgepjhnnlippaa

/-
  The document's fields: one of some bytes.
-/
import Derived.Test.YtbgepjhnnlippaaFlpG
namespace Go.Proofs.Ytbgepjhnnlippaa
open Go.RowKit
set_option linter.unusedVariables false

theorem one_byte (s o : ByteArray) (j : Nat) (hj : j < o.size) : (s.toList == (o.extract j (j + 1)).toList) = decide (s.size = 1 ∧ wd (nat o) j = wd (nat s) 0) := by
  have e1 : nat (o.extract j (j + 1)) = [wd (nat o) j] := by
    have hl := nat_length o
    refine List.ext_getElem ?_ fun i h1 h2 => ?_
    · rw [nat_length, size_extract]; simp; omega
    · have h0 : i = 0 := by simp at h2; exact h2
      subst h0
      have := wd_lt h1
      rw [← this, nat_extract]
      unfold wd
      simp [List.getD_eq_getElem?_getD, List.getElem?_drop]
  have e2 : (s.toList == (o.extract j (j + 1)).toList) = decide (s = o.extract j (j + 1)) := by
    rw [Lib.toList_data, Lib.toList_data, Bool.eq_iff_iff, beq_iff_eq, decide_eq_true_eq]
    exact ⟨fun h => nat_ext (by unfold nat; rw [h]), fun h => by rw [← h]⟩
  rw [e2, decide_eq_decide]
  constructor
  · intro h
    rw [← h] at e1
    have := nat_length s
    rw [e1] at this
    exact ⟨this.symm, by rw [e1]; rfl⟩
  · rintro ⟨h1, h2⟩
    refine nat_ext ?_
    rw [e1, h2]
    have hl := nat_length s
    rw [h1] at hl
    obtain ⟨x, hx⟩ := List.length_eq_one_iff.1 hl
    rw [hx]; rfl
set_option maxHeartbeats 1000000 in
theorem ref09_One (s o : ByteArray) (w : World) (hs : s.size ≤ 1000) (ho : o.size ≤ 1000) :
    Calls Try.prog 17 #[.string s, .string o] w fun e w' => e = .returned (.tuple #[.int .i64 ((oneOf (nat s) (nat o)).1 : Nat), .int .i64 ((oneOf (nat s) (nat o)).2 : Nat)]) ∧ w = w' := by
  have hl := nat_length s
  have hlo := nat_length o
  have HR := fun w => Lib.hid (ref09_read s w hs)
  by_cases hr : readE (nat s) = 0
  · rw [hr] at HR
    have hI : Hid (oneOf (nat s) (nat o) = if s.size = 1 ∧ placeOf (wd (nat s) 0) (nat o) < o.size then (placeOf (wd (nat s) 0) (nat o), 0) else (0, 5)) := by show _ = _; unfold oneOf; rw [if_neg (by omega), hl, hlo]
    have HE := fun j h => Lib.hid (one_byte s o j h)
    have HPL := fun n h1 h2 h3 => Lib.hid (place_at (wd (nat s) 0) (nat o) n h1 h2 h3)
    have HL := Lib.hid hlo
    clear hl hlo hr
    go_enter Try.func17, Try.ntmps17
    go_wp2_with (first | (go_at_call 21; refine (HR _).out.mono ?_; rintro e w1 ⟨rfl, rfl⟩))
    go_loop [7] (fun i => ∃ j : Nat, j ≤ o.size ∧ i = .int .i64 (j : Nat) ∧ Hid (s.size = 1 → ∀ q : Nat, q < j → wd (nat o) q ≠ wd (nat s) 0)) (fun i => o.size - (intOf i).toNat)
    case atStart => exact ⟨0, by omega, rfl, fun _ q hq => by omega⟩
    case round =>
      obtain ⟨j, hj, rfl, hM⟩ := hrel
      by_cases hlt : j < o.size
      · have m0 : (j : Int) < o.size := by omega
        have m1 : (0 : Int) ≤ j := by omega
        have m2 : IntKind.i64.wrap ((j : Int) + 1) = ((j + 1 : Nat) : Int) := by rw [IntWalk.i64_in _ (by omega)]; simp
        have m3 : ((j + 1 : Nat) : Int) ≤ o.size := by omega
        have m4 : (j : Int) ≤ ((j + 1 : Nat) : Int) := by omega
        have m5 : (0 : Int) ≤ ((j + 1 : Nat) : Int) := by omega
        have he := (HE j hlt).out
        obtain ⟨m, hm⟩ : ∃ m, j + 1 = m := ⟨_, rfl⟩
        rw [hm] at m2 m3 m4 m5 he
        have HMJ := Lib.hid hm
        clear hm
        by_cases hq : s.size = 1 ∧ wd (nat o) j = wd (nat s) 0
        · rw [decide_eq_true hq] at he
          have HI : Hid (oneOf (nat s) (nat o) = (j, 0)) := by
            show _ = _
            have hp := (HPL j (hM.out hq.1) (by rw [HL.out]; omega) (.inr hq.2)).out
            rw [hI.out, hp, if_pos ⟨hq.1, hlt⟩]
          clear hI HE HPL hM hq
          go_wp2_with fail
          go_ret2
          exact ⟨by rw [HI.out]; rfl, rfl⟩
        · rw [decide_eq_false hq] at he
          have hM2 : Hid (s.size = 1 → ∀ q : Nat, q < j + 1 → wd (nat o) q ≠ wd (nat s) 0) := fun h1 q hq2 => by
            rcases Nat.lt_or_ge q j with h | h
            · exact hM.out h1 q h
            · obtain rfl : q = j := by omega
              exact fun h => hq ⟨h1, h⟩
          clear hI HE HPL hM hq
          go_wp2_with fail
          go_round
          case rel => exact ⟨j + 1, by omega, by simp <;> (have := HMJ.out; omega), hM2⟩
          case measure => simp [intOf] <;> (have := HMJ.out; omega)
      · obtain rfl : j = o.size := by omega
        have HI : Hid (oneOf (nat s) (nat o) = (0, 5)) := by
          show _ = _
          rw [hI.out]
          by_cases h1 : s.size = 1
          · have hp := (HPL o.size (hM.out h1) (by rw [HL.out]; exact Nat.le_refl _) (.inl HL.out.symm)).out
            rw [hp, if_neg (fun h => Nat.lt_irrefl _ h.2)]
          · rw [if_neg (fun h => h1 h.1)]
        clear hI HE HPL hM
        go_wp2_with fail
        go_ret2
        exact ⟨by rw [HI.out]; rfl, rfl⟩
  · have hI : Hid (oneOf (nat s) (nat o) = (0, readE (nat s))) := by show _ = _; unfold oneOf; rw [if_pos hr]
    have hr9 := readE_le (nat s)
    have r0 : ¬ (readE (nat s) : Int) = 0 := by omega
    have r1 : ((readE (nat s) : Int) == 0) = false := by simpa using r0
    clear hl hlo hr
    generalize readE (nat s) = r at *
    go_enter Try.func17, Try.ntmps17
    go_wp2_with (first | (go_at_call 21; refine (HR _).out.mono ?_; rintro e w1 ⟨rfl, rfl⟩))
    go_ret2
    exact ⟨by rw [hI.out]; rfl, rfl⟩
end Go.Proofs.Ytbgepjhnnlippaa

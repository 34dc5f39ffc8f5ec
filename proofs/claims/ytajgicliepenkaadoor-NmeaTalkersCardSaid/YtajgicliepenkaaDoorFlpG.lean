/-
  The program's fields: dates; one of some bytes.
-/
import Derived.Test.YtajgicliepenkaaDoorFlpF
namespace Go.Proofs.YtajgicliepenkaaDoor
open Go.RowKit
set_option linter.unusedVariables false

set_option maxHeartbeats 1000000 in
theorem fld_Date (s : ByteArray) (w : World) (hs : s.size ≤ 1000) :
    Calls Tryd.prog 54 #[.string s] w fun e w' => e = .returned (dateVal (dateOf (nat s))) ∧ Grew w w' := by
  have hl := nat_length s
  have HR := fun w => Lib.hid (fld_read s w hs)
  have HS := fun w => fld_six s w hs
  by_cases hr : readE (nat s) = 0
  · rw [hr] at HR
    have hw := fun h : s.size = 6 => (show digs (nat s) 0 6 = (nat s).all isDig by have := digs_whole (nat s) (by omega); rwa [hl, h] at this)
    by_cases h6 : s.size = 6 ∧ (nat s).all isDig = true
    · have hI : Hid (dateOf (nat s) = if twoOf (nat s) 0 < 1 ∨ 31 < twoOf (nat s) 0 ∨ twoOf (nat s) 2 < 1 ∨ 12 < twoOf (nat s) 2 then ((0, 0, 0), 5) else ((twoOf (nat s) 0, twoOf (nat s) 2, twoOf (nat s) 4), 0)) := by
        show _ = _
        unfold dateOf
        rw [if_neg (by omega), hl, hw h6.1, h6.2]
        by_cases hc : twoOf (nat s) 0 < 1 ∨ 31 < twoOf (nat s) 0 ∨ twoOf (nat s) 2 < 1 ∨ 12 < twoOf (nat s) 2
        · rw [if_pos hc, if_pos (.inr (.inr hc))]
        · rw [if_neg hc, if_neg (fun h => by rcases h with h | h | h; exact h h6.1; cases h; exact hc h)]
      have e6 : sixOf s = .tuple #[.int .i64 (twoOf (nat s) 0 : Nat), .int .i64 (twoOf (nat s) 2 : Nat), .int .i64 (twoOf (nat s) 4 : Nat), .bool true] := by unfold sixOf; rw [if_pos h6]
      rw [e6] at HS
      replace HS := fun w => Lib.hid (HS w)
      generalize twoOf (nat s) 0 = T0 at *
      generalize twoOf (nat s) 2 = T2 at *
      generalize twoOf (nat s) 4 = T4 at *
      clear e6 hw hl hr h6
      by_cases hbad : T0 < 1 ∨ 31 < T0 ∨ T2 < 1 ∨ 12 < T2
      · have HI : Hid (dateOf (nat s) = ((0, 0, 0), 5)) := by show _ = _; rw [hI.out, if_pos hbad]
        have hcase : T0 < 1 ∨ (¬ T0 < 1 ∧ 31 < T0) ∨ (¬ T0 < 1 ∧ ¬ 31 < T0 ∧ T2 < 1) ∨ (¬ T0 < 1 ∧ ¬ 31 < T0 ∧ ¬ T2 < 1 ∧ 12 < T2) := by omega
        clear hI hbad
        rcases hcase with h | ⟨h, h1⟩ | ⟨h, h1, h2⟩ | ⟨h, h1, h2, h3⟩
        all_goals
          go_enter Tryd.func54, Tryd.ntmps54
          go_wp2_with (first | (go_at_call 63; refine (HR _).out.mono ?_; rintro e w1 ⟨rfl, rfl⟩) | (go_at_call 65; refine (HS _).out.mono ?_; rintro e w1 ⟨rfl, g1⟩))
          refine bodyPost_ret (by simp [results, Tryd.results54, go_sem]; try rfl) rfl ?_
          exact ⟨by rw [HI.out]; rfl, g1⟩
      · have HI : Hid (dateOf (nat s) = ((T0, T2, T4), 0)) := by show _ = _; rw [hI.out, if_neg hbad]
        have z0 : ¬ (T0 : Int) < 1 := by omega
        have z1 : ¬ (31 : Int) < T0 := by omega
        have z2 : ¬ (T2 : Int) < 1 := by omega
        have z3 : ¬ (12 : Int) < T2 := by omega
        clear hI hbad
        go_enter Tryd.func54, Tryd.ntmps54
        go_wp2_with (first | (go_at_call 63; refine (HR _).out.mono ?_; rintro e w1 ⟨rfl, rfl⟩) | (go_at_call 65; refine (HS _).out.mono ?_; rintro e w1 ⟨rfl, g1⟩))
        refine bodyPost_ret (by simp [results, Tryd.results54, go_sem]; try rfl) rfl ?_
        exact ⟨by rw [HI.out]; rfl, g1⟩
    · have HI : Hid (dateOf (nat s) = ((0, 0, 0), 5)) := by
        show _ = _
        unfold dateOf
        rw [if_neg (by omega), hl]
        by_cases h : s.size = 6
        · rw [hw h, if_pos (.inr (.inl (by cases hq : (nat s).all isDig; rfl; exact absurd ⟨h, hq⟩ h6)))]
        · rw [if_pos (.inl h)]
      have e6 : sixOf s = .tuple #[.int .i64 0, .int .i64 0, .int .i64 0, .bool false] := by unfold sixOf; rw [if_neg h6]
      rw [e6] at HS
      replace HS := fun w => Lib.hid (HS w)
      clear e6 hw hl hr h6
      go_enter Tryd.func54, Tryd.ntmps54
      go_wp2_with (first | (go_at_call 63; refine (HR _).out.mono ?_; rintro e w1 ⟨rfl, rfl⟩) | (go_at_call 65; refine (HS _).out.mono ?_; rintro e w1 ⟨rfl, g1⟩))
      refine bodyPost_ret (by simp [results, Tryd.results54, go_sem]; try rfl) rfl ?_
      exact ⟨by rw [HI.out]; rfl, g1⟩
  · have hI : Hid (dateOf (nat s) = ((0, 0, 0), readE (nat s))) := by show _ = _; unfold dateOf; rw [if_pos hr]
    have hr9 := readE_le (nat s)
    have r0 : ¬ (readE (nat s) : Int) = 0 := by omega
    have r1 : ((readE (nat s) : Int) == 0) = false := by simpa using r0
    clear hl hr
    generalize readE (nat s) = r at *
    go_enter Tryd.func54, Tryd.ntmps54
    go_wp2_with (first | (go_at_call 63; refine (HR _).out.mono ?_; rintro e w1 ⟨rfl, rfl⟩))
    refine bodyPost_ret (by simp [results, Tryd.results54, go_sem]; try rfl) rfl ?_
    exact ⟨by rw [hI.out]; rfl, Grew.refl _⟩

set_option maxHeartbeats 1000000 in
theorem fld_One (s o : ByteArray) (w : World) (hs : s.size ≤ 1000) (ho : o.size ≤ 1000) :
    Calls Tryd.prog 57 #[.string s, .string o] w fun e w' => e = .returned (.tuple #[.int .i64 ((oneOf (nat s) (nat o)).1 : Nat), .int .i64 ((oneOf (nat s) (nat o)).2 : Nat)]) ∧ Grew w w' := by
  have hl := nat_length s
  have hlo := nat_length o
  have HR := fun w => Lib.hid (fld_read s w hs)
  by_cases hr : readE (nat s) = 0
  · rw [hr] at HR
    have hz := readE_zero hr
    have y : ∀ w, Sem.run Tryd.prog (Instr.index 9 (.string s) (.int .i64 0)) w = .ok (.int .u8 (wd (nat s) 0 : Nat)) w := fun w => str_at s 0 (by omega) w
    have x256 := nat_lt s 0
    have hI : Hid (oneOf (nat s) (nat o) = if s.size = 1 ∧ placeOf (wd (nat s) 0) (nat o) < o.size then (placeOf (wd (nat s) 0) (nat o), 0) else (0, 5)) := by show _ = _; unfold oneOf; rw [if_neg (by omega), hl, hlo]
    have HX := fun w' => Tryd.strings_IndexByte o (wd (nat s) 0 : Nat) w'
    have e1 : (wd (nat s) 0).toUInt8.toNat = wd (nat s) 0 := Nat.mod_eq_of_lt x256
    have e2 : o.data.toList.map UInt8.toNat = nat o := rfl
    have e3 : o.data.toList.length = o.size := Array.length_toList ..
    rw [boolInt _ x256, index_place, e1, e2, e3] at HX
    generalize placeOf (wd (nat s) 0) (nat o) = P at *
    clear e1 e2 e3 hl hlo hr
    generalize wd (nat s) 0 = c at *
    have z1 : (0 : Int) < s.size := by omega
    by_cases hp : P < o.size
    · rw [if_pos hp] at HX
      replace HX := fun w => Lib.hid (HX w)
      have p0 : ¬ (P : Int) < 0 := by omega
      by_cases h1 : s.size = 1
      · have HI : Hid (oneOf (nat s) (nat o) = (P, 0)) := by show _ = _; rw [hI.out, if_pos ⟨h1, hp⟩]
        have c1 : (s.size : Int) = 1 := by omega
        clear hI h1 hz
        go_enter Tryd.func57, Tryd.ntmps57
        go_wp2_with (first | (go_at_call 63; refine (HR _).out.mono ?_; rintro e w1 ⟨rfl, rfl⟩) | (go_at_call 70; refine (HX _).out.mono ?_; rintro e w1 ⟨rfl, rfl⟩))
        go_ret2
        exact ⟨by rw [HI.out]; rfl, Grew.refl _⟩
      · have HI : Hid (oneOf (nat s) (nat o) = (0, 5)) := by show _ = _; rw [hI.out, if_neg (fun h => h1 h.1)]
        have c1 : ((s.size : Int) != 1) = true := by simp; omega
        have c2 : ((s.size : Int) == 1) = false := by simp; omega
        have c3 : ¬ (s.size : Int) = 1 := by omega
        clear hI h1 hz
        go_enter Tryd.func57, Tryd.ntmps57
        go_wp2_with (first | (go_at_call 63; refine (HR _).out.mono ?_; rintro e w1 ⟨rfl, rfl⟩) | (go_at_call 70; refine (HX _).out.mono ?_; rintro e w1 ⟨rfl, rfl⟩))
        go_ret2
        exact ⟨by rw [HI.out]; rfl, Grew.refl _⟩
    · rw [if_neg hp] at HX
      replace HX := fun w => Lib.hid (HX w)
      have HI : Hid (oneOf (nat s) (nat o) = (0, 5)) := by show _ = _; rw [hI.out, if_neg (fun h => hp h.2)]
      clear hI hz
      by_cases h1 : s.size = 1
      · have c1 : (s.size : Int) = 1 := by omega
        clear h1
        go_enter Tryd.func57, Tryd.ntmps57
        go_wp2_with (first | (go_at_call 63; refine (HR _).out.mono ?_; rintro e w1 ⟨rfl, rfl⟩) | (go_at_call 70; refine (HX _).out.mono ?_; rintro e w1 ⟨rfl, rfl⟩))
        go_ret2
        exact ⟨by rw [HI.out]; rfl, Grew.refl _⟩
      · have c1 : ((s.size : Int) != 1) = true := by simp; omega
        have c2 : ((s.size : Int) == 1) = false := by simp; omega
        have c3 : ¬ (s.size : Int) = 1 := by omega
        clear h1
        go_enter Tryd.func57, Tryd.ntmps57
        go_wp2_with (first | (go_at_call 63; refine (HR _).out.mono ?_; rintro e w1 ⟨rfl, rfl⟩) | (go_at_call 70; refine (HX _).out.mono ?_; rintro e w1 ⟨rfl, rfl⟩))
        go_ret2
        exact ⟨by rw [HI.out]; rfl, Grew.refl _⟩
  · have hI : Hid (oneOf (nat s) (nat o) = (0, readE (nat s))) := by show _ = _; unfold oneOf; rw [if_pos hr]
    have hr9 := readE_le (nat s)
    have r0 : ¬ (readE (nat s) : Int) = 0 := by omega
    have r1 : ((readE (nat s) : Int) == 0) = false := by simpa using r0
    clear hl hlo hr
    generalize readE (nat s) = r at *
    go_enter Tryd.func57, Tryd.ntmps57
    go_wp2_with (first | (go_at_call 63; refine (HR _).out.mono ?_; rintro e w1 ⟨rfl, rfl⟩))
    go_ret2
    exact ⟨by rw [hI.out]; rfl, Grew.refl _⟩
end Go.Proofs.YtajgicliepenkaaDoor

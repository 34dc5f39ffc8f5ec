/-
  The document's fields: dates.
-/
import Derived.Test.YtbgepjhnnlippaaFldU
namespace Go.Proofs.Ytbgepjhnnlippaa
open Go.RowKit
set_option linter.unusedVariables false

/-- A date, as it is told. -/
def dateVal (c : (Nat × Nat × Nat) × Nat) : Value := .tuple #[.int .i64 (c.1.1 : Nat), .int .i64 (c.1.2.1 : Nat), .int .i64 (c.1.2.2 : Nat), .int .i64 (c.2 : Nat)]
set_option maxRecDepth 100000 in
set_option maxHeartbeats 1000000 in
theorem ref09_Date (s : ByteArray) (w : World) (hs : s.size ≤ 1000) :
    Calls Try.prog 15 #[.string s] w fun e w' => e = .returned (dateVal (dateOf (nat s))) ∧ Grew w w' := by
  have hl := nat_length s
  have HR := fun w => Lib.hid (ref09_read s w hs)
  by_cases hr : readE (nat s) = 0
  · have hB : Hid (dateOf (nat s) = if s.size ≠ 6 ∨ digs (nat s) 0 6 = false ∨ twoOf (nat s) 0 < 1 ∨ 31 < twoOf (nat s) 0 ∨ twoOf (nat s) 2 < 1 ∨ 12 < twoOf (nat s) 2 then ((0, 0, 0), 5) else ((twoOf (nat s) 0, twoOf (nat s) 2, twoOf (nat s) 4), 0)) := by show _ = _; unfold dateOf; rw [if_neg (by omega), hl]
    rw [hr] at HR
    by_cases h6 : s.size ≠ 6
    · have hI : Hid (dateOf (nat s) = ((0, 0, 0), 5)) := by show _ = _; rw [hB.out, if_pos (.inl h6)]
      have p1 : ¬ (s.size : Int) = 6 := by omega
      have p2 : ((s.size : Int) == 6) = false := by simpa using p1
      clear hB hl hr h6
      go_enter Try.func15, Try.ntmps15
      go_wp2_with (go_at_call 21; refine (HR _).out.mono ?_; rintro e w1 ⟨rfl, rfl⟩)
      refine bodyPost_ret (by simp [results, Try.results15, go_sem]; try rfl) rfl ?_
      exact ⟨by rw [hI.out]; rfl, Grew.refl _⟩
    · have h6 : s.size = 6 := by omega
      have HD : ∀ w, Hid (Calls Try.prog 22 #[.string s, .int .i64 0, .int .i64 6] w fun e w' => e = .returned (.bool (digs (nat s) 0 6)) ∧ w = w') := fun w => ref09_Digits s 0 6 w hs (by omega) (by omega)
      have p1 : (s.size : Int) = 6 := by omega
      cases hd : digs (nat s) 0 6
      · have hI : Hid (dateOf (nat s) = ((0, 0, 0), 5)) := by show _ = _; rw [hB.out, if_pos (.inr (.inl hd))]
        rw [hd] at HD
        clear hB hl hr hd h6
        go_enter Try.func15, Try.ntmps15
        go_wp2_with (first | (go_at_call 21; refine (HR _).out.mono ?_; rintro e w1 ⟨rfl, rfl⟩) | (go_at_call 22; refine (HD _).out.mono ?_; rintro e w1 ⟨rfl, rfl⟩))
        refine bodyPost_ret (by simp [results, Try.results15, go_sem]; try rfl) rfl ?_
        exact ⟨by rw [hI.out]; rfl, Grew.refl _⟩
      · rw [hd] at HD
        have hdig := digs_all (S := nat s) (by omega) hd
        have D : ∀ i, i < 6 → isDig (wd (nat s) i) = true := fun i hi => hdig i (by omega) hi
        have HT0 : ∀ w, Hid (Calls Try.prog 28 #[.string s, .int .i64 0] w fun e w' => e = .returned (.int .i64 (twoOf (nat s) 0 : Nat)) ∧ Grew w w') := fun w => ref09_two s 0 w hs (by omega) (D 0 (by omega)) (D 1 (by omega))
        have HT2 : ∀ w, Hid (Calls Try.prog 28 #[.string s, .int .i64 2] w fun e w' => e = .returned (.int .i64 (twoOf (nat s) 2 : Nat)) ∧ Grew w w') := fun w => ref09_two s 2 w hs (by omega) (D 2 (by omega)) (D 3 (by omega))
        have HT4 : ∀ w, Hid (Calls Try.prog 28 #[.string s, .int .i64 4] w fun e w' => e = .returned (.int .i64 (twoOf (nat s) 4 : Nat)) ∧ Grew w w') := fun w => ref09_two s 4 w hs (by omega) (D 4 (by omega)) (D 5 (by omega))
        have hB2 : Hid (dateOf (nat s) = if twoOf (nat s) 0 < 1 ∨ 31 < twoOf (nat s) 0 ∨ twoOf (nat s) 2 < 1 ∨ 12 < twoOf (nat s) 2 then ((0, 0, 0), 5) else ((twoOf (nat s) 0, twoOf (nat s) 2, twoOf (nat s) 4), 0)) := by
          show _ = _
          rw [hB.out]
          by_cases hc : twoOf (nat s) 0 < 1 ∨ 31 < twoOf (nat s) 0 ∨ twoOf (nat s) 2 < 1 ∨ 12 < twoOf (nat s) 2
          · rw [if_pos hc, if_pos (.inr (.inr hc))]
          · rw [if_neg hc, if_neg (fun h => by rcases h with h | h | h; exact h h6; rw [hd] at h; cases h; exact hc h)]
        have l0 := two_lt (nat s) 0 (D 0 (by omega)) (D 1 (by omega))
        have l2 := two_lt (nat s) 2 (D 2 (by omega)) (D 3 (by omega))
        have l4 := two_lt (nat s) 4 (D 4 (by omega)) (D 5 (by omega))
        generalize twoOf (nat s) 0 = T0 at *
        generalize twoOf (nat s) 2 = T2 at *
        generalize twoOf (nat s) 4 = T4 at *
        have G := Lib.hid (Grew.refl w)
        clear hB hl hr hd hdig D h6
        by_cases hbad : T0 < 1 ∨ 31 < T0 ∨ T2 < 1 ∨ 12 < T2
        · have hI : Hid (dateOf (nat s) = ((0, 0, 0), 5)) := by show _ = _; rw [hB2.out, if_pos hbad]
          have hcase : T0 < 1 ∨ (¬ T0 < 1 ∧ 31 < T0) ∨ (¬ T0 < 1 ∧ ¬ 31 < T0 ∧ T2 < 1) ∨ (¬ T0 < 1 ∧ ¬ 31 < T0 ∧ ¬ T2 < 1 ∧ 12 < T2) := by omega
          clear hB2 hbad
          rcases hcase with h | ⟨h, h1⟩ | ⟨h, h1, h2⟩ | ⟨h, h1, h2, h3⟩
          all_goals
            go_enter Try.func15, Try.ntmps15
            go_wp2_with (first | (go_at_call 21; refine (HR _).out.mono ?_; rintro e w1 ⟨rfl, rfl⟩) | (go_at_call 22; refine (HD _).out.mono ?_; rintro e w1 ⟨rfl, rfl⟩) | (go_at_call 28; (first | (with_reducible refine (HT0 _).out.mono ?_) | (with_reducible refine (HT2 _).out.mono ?_) | (with_reducible refine (HT4 _).out.mono ?_)); rintro e w1 ⟨rfl, g1⟩; replace G := Lib.hid (G.out.trans g1); clear g1))
            refine bodyPost_ret (by simp [results, Try.results15, go_sem]; try rfl) rfl ?_
            exact ⟨by rw [hI.out]; rfl, G.out⟩
        · have hI : Hid (dateOf (nat s) = ((T0, T2, T4), 0)) := by show _ = _; rw [hB2.out, if_neg hbad]
          have z0 : ¬ (T0 : Int) < 1 := by omega
          have z1 : ¬ (31 : Int) < T0 := by omega
          have z2 : ¬ (T2 : Int) < 1 := by omega
          have z3 : ¬ (12 : Int) < T2 := by omega
          clear hB2 hbad
          go_enter Try.func15, Try.ntmps15
          go_wp2_with (first | (go_at_call 21; refine (HR _).out.mono ?_; rintro e w1 ⟨rfl, rfl⟩) | (go_at_call 22; refine (HD _).out.mono ?_; rintro e w1 ⟨rfl, rfl⟩) | (go_at_call 28; (first | (with_reducible refine (HT0 _).out.mono ?_) | (with_reducible refine (HT2 _).out.mono ?_) | (with_reducible refine (HT4 _).out.mono ?_)); rintro e w1 ⟨rfl, g1⟩; replace G := Lib.hid (G.out.trans g1); clear g1))
          refine bodyPost_ret (by simp [results, Try.results15, go_sem]; try rfl) rfl ?_
          exact ⟨by rw [hI.out]; rfl, G.out⟩
  · have hI : Hid (dateOf (nat s) = ((0, 0, 0), readE (nat s))) := by show _ = _; unfold dateOf; rw [if_pos hr]
    have hr9 := readE_le (nat s)
    have r0 : ¬ (readE (nat s) : Int) = 0 := by omega
    have r1 : ((readE (nat s) : Int) == 0) = false := by simpa using r0
    clear hl hr
    generalize readE (nat s) = r at *
    go_enter Try.func15, Try.ntmps15
    go_wp2_with (go_at_call 21; refine (HR _).out.mono ?_; rintro e w1 ⟨rfl, rfl⟩)
    refine bodyPost_ret (by simp [results, Try.results15, go_sem]; try rfl) rfl ?_
    exact ⟨by rw [hI.out]; rfl, Grew.refl _⟩

end Go.Proofs.Ytbgepjhnnlippaa

/-
  The program's weeks: their contracts.
-/
import Derived.Test.YtckkjccaomdnpaaWeekB
import Derived.Deep.RegionHeld3
namespace Go.Proofs.Ytckkjccaomdnpaa
open Go.RowKit
set_option linter.unusedVariables false

theorem ret_bool {a b : Bool} (h : a = b) : Ending.returned (.bool a) = .returned (.bool b) := by rw [h]
theorem week_mayBe (g : Int) (w : World) (hg : -9223372036854775808 ≤ g ∧ g ≤ 9223372036854775807) :
    Calls Try.prog 14 #[.int .i64 g] w fun e w' => e = .returned (.bool (inGps g)) ∧ Grew w w' := by
  go_enter Try.func14, Try.ntmps14
  go_wp2
  all_goals go_ret
  all_goals (refine ⟨ret_bool ?_, Grew.refl _⟩; rw [Bool.eq_iff_iff]; simp [inGps])
  all_goals omega

theorem week_ifMayBe (g : Int) (w : World) (hg : -9223372036854775808 ≤ g ∧ g ≤ 9223372036854775807) :
    Calls Try.prog 16 #[.int .i64 g] w fun e w' => e = .returned (.tuple #[.int .i64 (if inGps g = true then g else 0), .int .i64 (if inGps g = true then 0 else 9)]) ∧ Grew w w' := by
  have H := fun w => Lib.hid (week_mayBe g w hg)
  cases h : inGps g
  all_goals
    rw [h] at H
    clear h
    go_enter Try.func16, Try.ntmps16
    go_wp2_with fail
    refine (H _).out.mono ?_
    rintro e w1 ⟨rfl, g1⟩
    go_wp2_with fail
    go_ret2
    exact ⟨rfl, g1⟩

theorem tmod_mod (s n : Int) (hn : 0 < n) : -n < s.tmod n ∧ s.tmod n < n ∧ (s.tmod n + n).tmod n = s % n := by
  have h1 := Int.tmod_lt_of_pos s hn
  have h2 := Int.tmod_add_mul_tdiv s n
  have h3 : -n < s.tmod n := by
    rcases Int.le_total 0 s with h | h
    · have := Int.tmod_nonneg n h; omega
    · have e : s.tmod n = -((-s).tmod n) := by rw [Int.neg_tmod]; omega
      have := Int.tmod_lt_of_pos (-s) hn; omega
  refine ⟨h3, h1, ?_⟩
  rw [Int.tmod_eq_emod_of_nonneg (by omega), Int.add_emod_right]
  conv => rhs; rw [← h2]
  rw [Int.add_mul_emod_self_left]
theorem tdiv_down (s n : Int) (hn : 0 < n) : (s - s % n).tdiv n = s / n := by
  have h := Int.emod_add_mul_ediv s n
  rw [show s - s % n = n * (s / n) by omega, Int.mul_tdiv_cancel_left _ (by omega)]

set_option maxHeartbeats 1000000 in
theorem week_splitter1 (s n : Int) (p : Addr) (w : World) (hp : w.cell? p = some (.int .i64 n)) (hs : -1200000000000000000 ≤ s ∧ s ≤ 1200000000000000000) (hn : 604800 ≤ n ∧ n ≤ 619315200) :
    Calls Try.prog 24 #[.int .i64 s, .pointer (some p)] w fun e w' => e = .returned (.tuple #[.int .i64 (s / n), .int .i64 (s % n)]) ∧ Grew w w' := by
  obtain ⟨a0, a1, hm⟩ := tmod_mod s n (by omega)
  have hd := tdiv_down s n (by omega)
  have hr0 := Int.emod_nonneg s (show n ≠ 0 by omega)
  have hr1 := Int.emod_lt_of_pos s (show 0 < n by omega)
  have hq : -1200000000000000000 ≤ s / n ∧ s / n ≤ 1200000000000000000 := by
    refine ⟨Int.le_ediv_of_mul_le (by omega) (by omega), Int.ediv_le_of_le_mul (by omega) (by omega)⟩
  have n0 : ¬ n = 0 := by omega
  have n1 : n ≠ -1 := by omega
  have hw : IntKind.i64.wrap (s.tmod n + n) = s.tmod n + n := IntWalk.i64_in _ (by omega)
  have hv : IntKind.i64.wrap (s - s % n) = s - s % n := IntWalk.i64_in _ (by omega)
  have hu : IntKind.i64.wrap (s / n) = s / n := IntWalk.i64_in _ (by omega)
  generalize s % n = r at *
  generalize s / n = q at *
  go_enter Try.func24, Try.ntmps24
  go_wp2_with fail
  have G : Grew w w.drew := (Grew.refl w).drew
  go_region_held3 (fun w' => w'.cell? p = some (.int .i64 n)) (exact (G.cell (World.block_lt_of_cell? _ _ hp)).trans hp) (fail)
  go_wp2_with fail
  go_ret2
  exact ⟨rfl, G⟩

theorem week_splitter (n : Int) (w : World) (hn : 1 ≤ n ∧ n ≤ 1024) :
    Calls Try.prog 15 #[.int .i64 n] w fun e w' => ∃ p, e = .returned (.func (.func 24) #[] #[.pointer (some p)]) ∧ w'.cell? p = some (.int .i64 (n * 604800)) ∧ Grew w w' := by
  go_enter Try.func15, Try.ntmps15
  go_wp2_with fail
  go_ret
  exact ⟨_, rfl, by simp [go_sem], (Grew.refl w).alloc _⟩

theorem week_Split (g : Int) (w : World) (hg : -9223372036854775808 ≤ g ∧ g ≤ 9223372036854775807) :
    Calls Try.prog 6 #[.int .i64 g] w fun e w' => e = .returned (.tuple #[.int .i64 (if inGps g = true then g / 604800 else 0), .int .i64 (if inGps g = true then g % 604800 else 0), .int .i64 (if inGps g = true then 0 else 9)]) ∧ Grew w w' := by
  have H := fun w => Lib.hid (week_mayBe g w hg)
  cases h : inGps g
  · rw [h] at H
    clear h
    go_enter Try.func6, Try.ntmps6
    go_wp2_with fail
    refine (H _).out.mono ?_
    rintro e w1 ⟨rfl, g1⟩
    go_wp2_with fail
    go_ret3
    exact ⟨rfl, g1⟩
  · have hG : 0 ≤ g ∧ g ≤ 6000000000 := by simpa [inGps] using h
    rw [h] at H
    have H1 := fun p w hp => Lib.hid (week_splitter1 g 604800 p w hp (by omega) (by omega))
    clear h
    go_enter Try.func6, Try.ntmps6
    go_wp2_with fail
    refine (H _).out.mono ?_
    rintro e w1 ⟨rfl, g1⟩
    go_wp2_with fail
    refine (week_splitter 1 _ (by omega)).mono ?_
    rintro e w2 ⟨p, rfl, hp, g2⟩
    go_wp2_with fail
    refine (H1 p _ hp).out.mono ?_
    rintro e w3 ⟨rfl, g3⟩
    go_wp2_with fail
    go_ret3
    exact ⟨rfl, (g1.trans g2).trans g3⟩

set_option maxHeartbeats 1000000 in
theorem week_Join (n t : Int) (w : World) (hn : -9223372036854775808 ≤ n ∧ n ≤ 9223372036854775807) (ht : -9223372036854775808 ≤ t ∧ t ≤ 9223372036854775807) :
    Calls Try.prog 7 #[.int .i64 n, .int .i64 t] w fun e w' => e = .returned (.tuple #[.int .i64 (joinOf n t).1, .int .i64 (joinOf n t).2]) ∧ Grew w w' := by
  by_cases h : n < 0 ∨ t < 0 ∨ 604799 < t
  · rw [show joinOf n t = (0, 2) by unfold joinOf; rw [if_pos h]]
    rcases (show n < 0 ∨ (0 ≤ n ∧ t < 0) ∨ (0 ≤ n ∧ 0 ≤ t ∧ 604799 < t) by omega) with hc | hc | hc
    all_goals
      go_enter Try.func7, Try.ntmps7
      go_wp2_with fail
      go_ret2
      exact ⟨rfl, Grew.refl _⟩
  · by_cases h2 : 9920 < n
    · rw [show joinOf n t = (0, 9) by unfold joinOf; rw [if_neg h, if_pos (by omega)]]
      have h0 : 0 ≤ t ∧ t ≤ 604799 := by omega
      clear h ht
      go_enter Try.func7, Try.ntmps7
      go_wp2_with fail
      go_ret2
      exact ⟨rfl, Grew.refl _⟩
    · have H := fun w => Lib.hid (week_ifMayBe (n * 604800 + t) w (by omega))
      have hJ : joinOf n t = (if inGps (n * 604800 + t) = true then n * 604800 + t else 0, if inGps (n * 604800 + t) = true then 0 else 9) := by
        unfold joinOf
        rw [if_neg h]
        by_cases h3 : 6000000000 < n * 604800 + t
        · have : inGps (n * 604800 + t) = false := by simp [inGps]; omega
          rw [if_pos h3, this]; rfl
        · have : inGps (n * 604800 + t) = true := by simp [inGps]; omega
          rw [if_neg h3, this]; rfl
      rw [hJ]
      have h0 : (0 ≤ t ∧ t ≤ 604799) ∧ 0 ≤ n ∧ n ≤ 9920 := by omega
      clear h h2 hn ht hJ
      generalize (if inGps (n * 604800 + t) = true then n * 604800 + t else 0) = x1 at H ⊢
      generalize (if inGps (n * 604800 + t) = true then (0 : Int) else 9) = x2 at H ⊢
      go_enter Try.func7, Try.ntmps7
      go_wp2_with fail
      refine (H _).out.mono ?_
      rintro e w1 ⟨rfl, g1⟩
      go_wp2_with fail
      go_ret2
      exact ⟨rfl, g1⟩

set_option maxHeartbeats 1000000 in
theorem week_Near (g n f : Int) (w : World) (hg : -9223372036854775808 ≤ g ∧ g ≤ 9223372036854775807) (hn : -9223372036854775808 ≤ n ∧ n ≤ 9223372036854775807) (hf : -9223372036854775808 ≤ f ∧ f ≤ 9223372036854775807) :
    Calls Try.prog 12 #[.int .i64 g, .int .i64 n, .int .i64 f] w fun e w' => e = .returned (.tuple #[.int .i64 (weekNear g n f).1, .int .i64 (weekNear g n f).2]) ∧ Grew w w' := by
  have H := fun w => Lib.hid (week_mayBe f w hf)
  by_cases h : n < 1 ∨ 1024 < n
  · rw [show weekNear g n f = (0, 2) by unfold weekNear; rw [if_pos (by omega)]]
    rcases (show n < 1 ∨ (1 ≤ n ∧ 1024 < n) by omega) with hc | hc
    all_goals
      go_enter Try.func12, Try.ntmps12
      go_wp2_with fail
      go_ret2
      exact ⟨rfl, Grew.refl _⟩
  · have h1 : 1 ≤ n ∧ n ≤ 1024 := by omega
    cases hb : inGps f
    · rw [show weekNear g n f = (0, 2) by unfold weekNear; rw [if_pos (.inr (.inr hb))]]
      rw [hb] at H
      clear hb h hn
      go_enter Try.func12, Try.ntmps12
      go_wp2_with fail
      refine (H _).out.mono ?_
      rintro e w1 ⟨rfl, g1⟩
      go_wp2_with fail
      go_ret2
      exact ⟨rfl, g1⟩
    · have hF : 0 ≤ f ∧ f ≤ 6000000000 := by simpa [inGps] using hb
      rw [hb] at H
      by_cases h2 : g < -1152921504606846976 ∨ 1152921504606846976 < g
      · rw [show weekNear g n f = (0, 9) by unfold weekNear; rw [if_neg (by rw [hb]; simp; omega), if_pos h2]]
        rcases (show g < -1152921504606846976 ∨ (-1152921504606846976 ≤ g ∧ 1152921504606846976 < g) by omega) with hc | hc
        all_goals
          clear hb h hn h2
          go_enter Try.func12, Try.ntmps12
          go_wp2_with fail
          refine (H _).out.mono ?_
          rintro e w1 ⟨rfl, g1⟩
          go_wp2_with fail
          go_ret2
          exact ⟨rfl, g1⟩
      · have h3 : -1152921504606846976 ≤ g ∧ g ≤ 1152921504606846976 := by omega
        have hJ : weekNear g n f = (if inGps (f + (g - f) % (n * 604800)) = true then f + (g - f) % (n * 604800) else 0, if inGps (f + (g - f) % (n * 604800)) = true then 0 else 9) := by
          unfold weekNear
          rw [if_neg (by rw [hb]; simp; omega), if_neg h2]
          cases inGps (f + (g - f) % (n * 604800)) <;> rfl
        rw [hJ]
        have hm : 604800 ≤ n * 604800 ∧ n * 604800 ≤ 619315200 := by omega
        have m0 := Int.emod_nonneg (g - f) (show n * 604800 ≠ 0 by omega)
        have m1 := Int.emod_lt_of_pos (g - f) (show 0 < n * 604800 by omega)
        have H4 := fun p w hp => Lib.hid (week_splitter1 (g - f) (n * 604800) p w hp (by omega) hm)
        have H5 := fun w => Lib.hid (week_ifMayBe (f + (g - f) % (n * 604800)) w (by omega))
        generalize (g - f) % (n * 604800) = r at *
        generalize (g - f) / (n * 604800) = q at *
        clear hJ hb h hn h2 hm
        generalize (if inGps (f + r) = true then f + r else 0) = x1 at H5 ⊢
        generalize (if inGps (f + r) = true then (0 : Int) else 9) = x2 at H5 ⊢
        go_enter Try.func12, Try.ntmps12
        go_wp2_with fail
        refine (H _).out.mono ?_
        rintro e w1 ⟨rfl, g1⟩
        go_wp2_with fail
        refine (week_splitter n _ h1).mono ?_
        rintro e w2 ⟨p, rfl, hp, g2⟩
        go_wp2_with fail
        refine (H4 p _ hp).out.mono ?_
        rintro e w3 ⟨rfl, g3⟩
        go_wp2_with fail
        refine (H5 _).out.mono ?_
        rintro e w4 ⟨rfl, g4⟩
        go_wp2_with fail
        go_ret2
        exact ⟨rfl, ((g1.trans g2).trans g3).trans g4⟩

theorem week_calls : WeekCalls (fun _ => True) where
  keep := fun _ _ _ _ => trivial
  split := fun g w h _ => week_Split g w h
  join := fun n t w hn ht _ => week_Join n t w hn ht
  near := fun g n f w hg hn hf _ => week_Near g n f w hg hn hf
end Go.Proofs.Ytckkjccaomdnpaa

/-
  The walks of the laws on weeks, out of the program's contracts.
-/
import Derived.Test.YtckkjccaomdnpaaWeekA
namespace Go.Proofs.Ytckkjccaomdnpaa
open Go.RowKit
set_option linter.unusedVariables false

theorem join_back (g : Int) (h : inGps g = true) : joinOf (g / 604800) (g % 604800) = (g, 0) := by
  have hg : 0 ≤ g ∧ g ≤ 6000000000 := by simpa [inGps] using h
  unfold joinOf
  rw [if_neg (by omega), if_neg (by omega)]
  congr 1; omega
theorem near_back_week (g b c : Int) (h : inGps g = true) (hb : 0 ≤ b ∧ b ≤ g ∧ b < 619315200) (hc : -1000 ≤ c ∧ c ≤ 1000) : weekNear (g + c * 1024 * 604800) 1024 (g - b) = (g, 0) := by
  have hg : 0 ≤ g ∧ g ≤ 6000000000 := by simpa [inGps] using h
  have hi : inGps (g - b) = true := by simp [inGps]; omega
  have e : (g + c * 1024 * 604800 - (g - b)) % (1024 * 604800) = b := by omega
  unfold weekNear
  rw [if_neg (by rw [hi]; simp), if_neg (by omega), e, show g - b + b = g by omega, h, if_pos rfl]

/-- What the program's calls tell; T: what they lean on in the world. -/
structure WeekCalls (T : World → Prop) : Prop where
  keep : ∀ w w', T w → Grew w w' → T w'
  split : ∀ g w, (-9223372036854775808 ≤ g ∧ g ≤ 9223372036854775807) → T w → Calls Try.prog 6 #[.int .i64 g] w fun e w' => e = .returned (.tuple #[.int .i64 (if inGps g = true then g / 604800 else 0), .int .i64 (if inGps g = true then g % 604800 else 0), .int .i64 (if inGps g = true then 0 else 9)]) ∧ Grew w w'
  join : ∀ n t w, (-9223372036854775808 ≤ n ∧ n ≤ 9223372036854775807) → (-9223372036854775808 ≤ t ∧ t ≤ 9223372036854775807) → T w → Calls Try.prog 7 #[.int .i64 n, .int .i64 t] w fun e w' => e = .returned (.tuple #[.int .i64 (joinOf n t).1, .int .i64 (joinOf n t).2]) ∧ Grew w w'
  near : ∀ g n f w, (-9223372036854775808 ≤ g ∧ g ≤ 9223372036854775807) → (-9223372036854775808 ≤ n ∧ n ≤ 9223372036854775807) → (-9223372036854775808 ≤ f ∧ f ≤ 9223372036854775807) → T w → Calls Try.prog 12 #[.int .i64 g, .int .i64 n, .int .i64 f] w fun e w' => e = .returned (.tuple #[.int .i64 (weekNear g n f).1, .int .i64 (weekNear g n f).2]) ∧ Grew w w'

theorem week_known {T : World → Prop} (P : WeekCalls T) (w : World) (ht : T w) : Calls Try.prog 10 #[] w fun e w' => e = .returned (.bool true) ∧ Grew w w' := by
  have H1 := fun w ht => Lib.hid (P.split 604801 w (by omega) ht)
  have H2 := fun w ht => Lib.hid (P.near 5 1024 10 w (by omega) (by omega) (by omega) ht)
  have H3 := fun w ht => Lib.hid (P.join 0 604800 w (by omega) (by omega) ht)
  simp only [show inGps 604801 = true by decide +kernel, if_true, show (604801 : Int) / 604800 = 1 by decide, show (604801 : Int) % 604800 = 1 by decide] at H1
  simp only [show weekNear 5 1024 10 = (619315205, 0) by decide +kernel] at H2
  simp only [show joinOf 0 604800 = (0, 2) by decide +kernel] at H3
  have K := Lib.hid P.keep
  have G := Grew.refl w
  go_enter Try.func10, Try.ntmps10
  go_wp2_with fail
  refine (H1 _ (K.out _ _ ht G)).out.mono ?_
  rintro e w1 ⟨rfl, g⟩
  replace G := G.trans g
  clear g
  go_wp2_with fail
  refine (H2 _ (K.out _ _ ht G)).out.mono ?_
  rintro e w2 ⟨rfl, g⟩
  replace G := G.trans g
  clear g
  go_wp2_with fail
  refine (H3 _ (K.out _ _ ht G)).out.mono ?_
  rintro e w3 ⟨rfl, g⟩
  replace G := G.trans g
  clear g
  go_wp2_with fail
  go_ret
  exact ⟨rfl, G⟩

set_option maxRecDepth 100000 in
set_option maxHeartbeats 2000000 in
theorem walk_WeekSplits {T : World → Prop} (P : WeekCalls T) (g n tow : Int) (w : World) (ht : T w) (hg : -9223372036854775808 ≤ g ∧ g ≤ 9223372036854775807) (hn : -9223372036854775808 ≤ n ∧ n ≤ 9223372036854775807) (hw : -9223372036854775808 ≤ tow ∧ tow ≤ 9223372036854775807) :
    Calls Try.prog 3 #[.int .i64 g, .int .i64 n, .int .i64 tow] w fun e w' => e = .returned (.bool true) ∧ Grew w w' := by
  have HK := fun w ht => Lib.hid (week_known P w ht)
  have K := Lib.hid P.keep
  have G := Grew.refl w
  have H1 := fun w ht => Lib.hid (P.split g w hg ht)
  have H2 := fun w ht => Lib.hid (P.join n tow w hn hw ht)
  have H3 := fun w => Lib.hid (ref05_Join n tow w hn hw)
  have H4 := fun w => Lib.hid (ref05_In g w hg)
  have H5 := fun w => Lib.hid (ref05_Split g w hg)
  generalize (joinOf n tow).1 = j1 at H2 H3
  generalize (joinOf n tow).2 = j2 at H2 H3
  cases hin : inGps g
  all_goals
    simp only [hin, if_true, if_false, Bool.false_eq_true] at H1 H4
    clear hin
    generalize g / 604800 = q at *
    generalize g % 604800 = r at *
    go_enter Try.func3, Try.ntmps3
    go_wp2_with (first
      | (go_at_call 6; refine (H1 _ (K.out _ _ ht G)).out.mono ?_; rintro e w' ⟨rfl, hg⟩; replace G := G.trans hg; clear hg)
      | (go_at_call 7; refine (H2 _ (K.out _ _ ht G)).out.mono ?_; rintro e w' ⟨rfl, hg⟩; replace G := G.trans hg; clear hg)
      | (go_at_call 8; refine (H3 _).out.mono ?_; rintro e w' ⟨rfl, hg⟩; replace G := G.trans hg; clear hg)
      | (go_at_call 9; refine (H4 _).out.mono ?_; rintro e w' ⟨rfl, hg⟩; replace G := G.trans hg; clear hg)
      | (go_at_call 11; refine (H5 _).out.mono ?_; rintro e w' ⟨rfl, hg⟩; replace G := G.trans hg; clear hg)
      | (go_at_call 10; refine (HK _ (K.out _ _ ht G)).out.mono ?_; rintro e w' ⟨rfl, hg⟩; replace G := G.trans hg; clear hg))
    go_ret
    exact ⟨rfl, G⟩

set_option maxRecDepth 100000 in
set_option maxHeartbeats 2000000 in
theorem walk_WeekNear {T : World → Prop} (P : WeekCalls T) (g n f : Int) (w : World) (ht : T w) (hg : -9223372036854775808 ≤ g ∧ g ≤ 9223372036854775807) (hn : -9223372036854775808 ≤ n ∧ n ≤ 9223372036854775807) (hf : -9223372036854775808 ≤ f ∧ f ≤ 9223372036854775807) :
    Calls Try.prog 4 #[.int .i64 g, .int .i64 n, .int .i64 f] w fun e w' => e = .returned (.bool true) ∧ Grew w w' := by
  have HK := fun w ht => Lib.hid (week_known P w ht)
  have K := Lib.hid P.keep
  have G := Grew.refl w
  have H1 := fun w ht => Lib.hid (P.near g n f w hg hn hf ht)
  have H2 := fun w => Lib.hid (ref05_Near g n f w hg hn hf)
  generalize (weekNear g n f).1 = j1 at H1 H2
  generalize (weekNear g n f).2 = j2 at H1 H2
  go_enter Try.func4, Try.ntmps4
  go_wp2_with (first
    | (go_at_call 12; refine (H1 _ (K.out _ _ ht G)).out.mono ?_; rintro e w' ⟨rfl, hg⟩; replace G := G.trans hg; clear hg)
    | (go_at_call 13; refine (H2 _).out.mono ?_; rintro e w' ⟨rfl, hg⟩; replace G := G.trans hg; clear hg)
    | (go_at_call 10; refine (HK _ (K.out _ _ ht G)).out.mono ?_; rintro e w' ⟨rfl, hg⟩; replace G := G.trans hg; clear hg))
  go_ret
  exact ⟨rfl, G⟩

set_option maxRecDepth 100000 in
set_option maxHeartbeats 2000000 in
theorem walk_WeekBack {T : World → Prop} (P : WeekCalls T) (g b c : Int) (w : World) (ht : T w) (hg : -9223372036854775808 ≤ g ∧ g ≤ 9223372036854775807) (hb : -9223372036854775808 ≤ b ∧ b ≤ 9223372036854775807) (hc : -9223372036854775808 ≤ c ∧ c ≤ 9223372036854775807) :
    Calls Try.prog 5 #[.int .i64 g, .int .i64 b, .int .i64 c] w fun e w' => e = .returned (.bool true) ∧ Grew w w' := by
  have HK := fun w ht => Lib.hid (week_known P w ht)
  have K := Lib.hid P.keep
  have G := Grew.refl w
  have H1 := fun w ht => Lib.hid (P.split g w hg ht)
  cases hin : inGps g
  · simp only [hin, if_false, Bool.false_eq_true] at H1
    clear hin
    go_enter Try.func5, Try.ntmps5
    go_wp2_with (first
      | (go_at_call 6; refine (H1 _ (K.out _ _ ht G)).out.mono ?_; rintro e w' ⟨rfl, hg⟩; replace G := G.trans hg; clear hg)
      | (go_at_call 10; refine (HK _ (K.out _ _ ht G)).out.mono ?_; rintro e w' ⟨rfl, hg⟩; replace G := G.trans hg; clear hg))
    go_ret
    exact ⟨rfl, G⟩
  · have hgb : 0 ≤ g ∧ g ≤ 6000000000 := by simpa [inGps] using hin
    simp only [hin, if_true] at H1
    have H2 := fun w ht => Lib.hid (P.join (g / 604800) (g % 604800) w (by omega) (by omega) ht)
    rw [join_back g hin] at H2
    have hr : 0 ≤ g % 604800 ∧ g % 604800 < 604800 := by omega
    generalize g / 604800 = q at H1 H2
    generalize g % 604800 = r at H1 H2 hr
    by_cases hx : b < 0 ∨ g < b ∨ 619315200 ≤ b ∨ c < -1000 ∨ 1000 < c
    · rcases (show b < 0 ∨ (0 ≤ b ∧ g < b) ∨ ((0 ≤ b ∧ b ≤ g) ∧ 619315200 ≤ b) ∨ ((0 ≤ b ∧ b ≤ g ∧ b < 619315200) ∧ c < -1000) ∨ ((0 ≤ b ∧ b ≤ g ∧ b < 619315200) ∧ -1000 ≤ c ∧ 1000 < c) by omega) with hx | hx | hx | hx | hx
      all_goals
        clear hin
        go_enter Try.func5, Try.ntmps5
        go_wp2_with (first
          | (go_at_call 6; refine (H1 _ (K.out _ _ ht G)).out.mono ?_; rintro e w' ⟨rfl, hg⟩; replace G := G.trans hg; clear hg)
          | (go_at_call 7; refine (H2 _ (K.out _ _ ht G)).out.mono ?_; rintro e w' ⟨rfl, hg⟩; replace G := G.trans hg; clear hg)
          | (go_at_call 10; refine (HK _ (K.out _ _ ht G)).out.mono ?_; rintro e w' ⟨rfl, hg⟩; replace G := G.trans hg; clear hg))
        go_ret
        exact ⟨rfl, G⟩
    · have H3 := fun w ht => Lib.hid (P.near (g + c * 1024 * 604800) 1024 (g - b) w (by omega) (by omega) (by omega) ht)
      rw [near_back_week g b c hin (by omega) (by omega)] at H3
      have hb1 : (0 ≤ b ∧ b ≤ g ∧ b < 619315200) ∧ -1000 ≤ c ∧ c ≤ 1000 := by omega
      clear hin hx hb hc
      go_enter Try.func5, Try.ntmps5
      go_wp2_with (first
        | (go_at_call 6; refine (H1 _ (K.out _ _ ht G)).out.mono ?_; rintro e w' ⟨rfl, hg⟩; replace G := G.trans hg; clear hg)
        | (go_at_call 7; refine (H2 _ (K.out _ _ ht G)).out.mono ?_; rintro e w' ⟨rfl, hg⟩; replace G := G.trans hg; clear hg)
        | (go_at_call 12; refine (H3 _ (K.out _ _ ht G)).out.mono ?_; rintro e w' ⟨rfl, hg⟩; replace G := G.trans hg; clear hg)
        | (go_at_call 10; refine (HK _ (K.out _ _ ht G)).out.mono ?_; rintro e w' ⟨rfl, hg⟩; replace G := G.trans hg; clear hg))
      go_ret
      exact ⟨rfl, G⟩
end Go.Proofs.Ytckkjccaomdnpaa

/-
  The walks of the laws on leap seconds, out of the program's contracts.
-/
import Derived.Test.YtnfijelcnemgbaaDoorLeapD
namespace Go.Proofs.YtnfijelcnemgbaaDoor
open Go.RowKit
set_option linter.unusedVariables false

/-- What the program's calls tell; T: what they lean on in the world. -/
structure LeapCalls (T : World → Prop) : Prop where
  keep : ∀ w w', T w → Grew w w' → T w'
  off : ∀ g w, (-9223372036854775808 ≤ g ∧ g ≤ 9223372036854775807) → T w → Calls Tryd.prog 6 #[.int .i64 g] w fun e w' => e = .returned (.tuple #[.int .i64 (if inGps g = true then offOf g else 0), .int .i64 (if inGps g = true then 0 else 9)]) ∧ Grew w w'
  utc : ∀ g w, (-9223372036854775808 ≤ g ∧ g ≤ 9223372036854775807) → T w → Calls Tryd.prog 7 #[.int .i64 g] w fun e w' => e = .returned (.tuple #[.int .i64 (if inGps g = true then utcOf g else 0), .bool (inGps g && leapOfG g), .int .i64 (if inGps g = true then 0 else 9)]) ∧ Grew w w'
  gps : ∀ s l w, (-9223372036854775808 ≤ s ∧ s ≤ 9223372036854775807) → T w → Calls Tryd.prog 13 #[.int .i64 s, .bool l] w fun e w' => e = .returned (.tuple #[.int .i64 (gpsOf s l).1, .int .i64 (gpsOf s l).2]) ∧ Grew w w'

set_option maxHeartbeats 1000000 in
theorem leap_known {T : World → Prop} (P : LeapCalls T) (w : World) (ht : T w) : Calls Tryd.prog 15 #[] w fun e w' => e = .returned (.bool true) ∧ Grew w w' := by
  have H1 := fun w ht => Lib.hid (P.utc 1167264016 w (by omega) ht)
  have H2 := fun w ht => Lib.hid (P.utc 1167264017 w (by omega) ht)
  have H3 := fun w ht => Lib.hid (P.utc 1167264018 w (by omega) ht)
  have H4 := fun w ht => Lib.hid (P.gps 3692217600 true w (by omega) ht)
  simp only [show inGps 1167264016 = true by decide +kernel, show utcOf 1167264016 = 3692217599 by decide +kernel, show leapOfG 1167264016 = false by decide +kernel, if_true, Bool.true_and] at H1
  simp only [show inGps 1167264017 = true by decide +kernel, show utcOf 1167264017 = 3692217600 by decide +kernel, show leapOfG 1167264017 = true by decide +kernel, if_true, Bool.true_and] at H2
  simp only [show inGps 1167264018 = true by decide +kernel, show utcOf 1167264018 = 3692217600 by decide +kernel, show leapOfG 1167264018 = false by decide +kernel, if_true, Bool.true_and] at H3
  simp only [show gpsOf 3692217600 true = (1167264017, 0) by decide +kernel] at H4
  have K := Lib.hid P.keep
  have G := Grew.refl w
  go_enter Tryd.func15, Tryd.ntmps15
  go_wp2_with fail
  refine (H1 _ (K.out _ _ ht G)).out.mono ?_
  rintro e w1 ⟨rfl, g⟩
  replace G := G.trans g
  clear g
  go_wp2_with fail
  refine (H2 _ (K.out _ _ ht G)).out.mono ?_
  rintro e w2 ⟨rfl, g⟩
  replace G := G.trans g
  clear g
  go_wp2_with fail
  refine (H3 _ (K.out _ _ ht G)).out.mono ?_
  rintro e w3 ⟨rfl, g⟩
  replace G := G.trans g
  clear g
  go_wp2_with fail
  refine (H4 _ (K.out _ _ ht G)).out.mono ?_
  rintro e w4 ⟨rfl, g⟩
  replace G := G.trans g
  clear g
  go_wp2_with fail
  go_ret
  exact ⟨rfl, G⟩

set_option maxRecDepth 100000 in
set_option maxHeartbeats 2000000 in
theorem walk_LeapBack {T : World → Prop} (P : LeapCalls T) (g : Int) (w : World) (ht : T w) (hg : -9223372036854775808 ≤ g ∧ g ≤ 9223372036854775807) :
    Calls Tryd.prog 5 #[.int .i64 g] w fun e w' => e = .returned (.bool true) ∧ Grew w w' := by
  have HK := fun w ht => Lib.hid (leap_known P w ht)
  have K := Lib.hid P.keep
  have G := Grew.refl w
  have H1 := fun w ht => Lib.hid (P.utc g w hg ht)
  by_cases hin : 0 ≤ g ∧ g < 6000000000
  · have i0 : inGps g = true := by simp [inGps]; omega
    have i1 : inGps (g + 1) = true := by simp [inGps]; omega
    have H2 := fun w ht => Lib.hid (P.utc (g + 1) w (by omega) ht)
    have hn := utc_next g (by omega)
    have hr := utc_range g (by omega)
    have H3 := fun w ht => Lib.hid (P.gps (utcOf g) (leapOfG g) w (by omega) ht)
    rw [gps_back g (by omega) (by omega)] at H3
    simp only [i0, i1, if_true, Bool.true_and] at H1 H2
    rw [hn] at H2
    clear i0 i1 hn
    generalize leapOfG (g + 1) = l2 at H2
    generalize utcOf g = u at *
    generalize leapOfG g = l at *
    cases l
    all_goals
      simp only [if_true, if_false, Bool.false_eq_true] at H2
      go_enter Tryd.func5, Tryd.ntmps5
      go_wp2_with fail
      refine (H1 _ (K.out _ _ ht G)).out.mono ?_
      rintro e w1 ⟨rfl, g⟩
      replace G := G.trans g
      clear g
      go_wp2_with fail
      refine (H2 _ (K.out _ _ ht G)).out.mono ?_
      rintro e w2 ⟨rfl, g⟩
      replace G := G.trans g
      clear g
      go_wp2_with fail
      refine (H3 _ (K.out _ _ ht G)).out.mono ?_
      rintro e w3 ⟨rfl, g⟩
      replace G := G.trans g
      clear g
      go_wp2_with fail
      refine (HK _ (K.out _ _ ht G)).out.mono ?_
      rintro e w4 ⟨rfl, g⟩
      replace G := G.trans g
      clear g
      go_wp2_with fail
      all_goals go_ret
      all_goals exact ⟨rfl, G⟩
  · by_cases hmax : g = 9223372036854775807
    · have i0 : inGps g = false := by simp [inGps]; omega
      simp only [i0, if_false, Bool.false_eq_true, Bool.false_and] at H1
      have HM := Lib.hid hmax
      have hge : 6000000000 ≤ g := by omega
      have H2 : Hid (∀ n : Int, n = -9223372036854775808 → ∀ w, T w → _) := Lib.hid fun n hn w ht => P.utc n w (by omega) ht
      clear hmax hin i0 hg
      go_enter Tryd.func5, Tryd.ntmps5
      go_wp2_with fail
      refine (H1 _ (K.out _ _ ht G)).out.mono ?_
      rintro e w1 ⟨rfl, g⟩
      replace G := G.trans g
      clear g
      go_wp2_with fail
      refine (H2.out _ (by rw [HM.out]; unfold wrap64; decide) _ (K.out _ _ ht G)).mono ?_
      rintro e w2 ⟨rfl, g⟩
      replace G := G.trans g
      clear g
      go_wp2_with fail
      all_goals go_ret
      all_goals exact ⟨rfl, G⟩
    · have H2 := fun w ht => Lib.hid (P.utc (g + 1) w (by omega) ht)
      rcases (show g < 0 ∨ g = 6000000000 ∨ 6000000000 < g by omega) with hc | hc | hc
      · have i0 : inGps g = false := by simp [inGps]; omega
        simp only [i0, if_false, Bool.false_eq_true, Bool.false_and] at H1
        generalize (if inGps (g + 1) = true then utcOf (g + 1) else 0) = z at H2
        generalize (inGps (g + 1) && leapOfG (g + 1)) = b at H2
        generalize (if inGps (g + 1) = true then (0 : Int) else 9) = E at H2
        clear i0 hin
        go_enter Tryd.func5, Tryd.ntmps5
        go_wp2_with fail
        refine (H1 _ (K.out _ _ ht G)).out.mono ?_
        rintro e w1 ⟨rfl, g⟩
        replace G := G.trans g
        clear g
        go_wp2_with fail
        refine (H2 _ (K.out _ _ ht G)).out.mono ?_
        rintro e w2 ⟨rfl, g⟩
        replace G := G.trans g
        clear g
        go_wp2_with fail
        all_goals go_ret
        all_goals exact ⟨rfl, G⟩
      · have i0 : inGps g = true := by simp [inGps]; omega
        have i1 : inGps (g + 1) = false := by simp [inGps]; omega
        simp only [i0, i1, if_true, if_false, Bool.false_eq_true, Bool.false_and, Bool.true_and] at H1 H2
        have hge : 6000000000 ≤ g := by omega
        generalize utcOf g = u at H1
        generalize leapOfG g = l at H1
        clear i0 i1 hin hc
        go_enter Tryd.func5, Tryd.ntmps5
        go_wp2_with fail
        refine (H1 _ (K.out _ _ ht G)).out.mono ?_
        rintro e w1 ⟨rfl, g⟩
        replace G := G.trans g
        clear g
        go_wp2_with fail
        refine (H2 _ (K.out _ _ ht G)).out.mono ?_
        rintro e w2 ⟨rfl, g⟩
        replace G := G.trans g
        clear g
        go_wp2_with fail
        all_goals go_ret
        all_goals exact ⟨rfl, G⟩
      · have i0 : inGps g = false := by simp [inGps]; omega
        simp only [i0, if_false, Bool.false_eq_true, Bool.false_and] at H1
        generalize (if inGps (g + 1) = true then utcOf (g + 1) else 0) = z at H2
        generalize (inGps (g + 1) && leapOfG (g + 1)) = b at H2
        generalize (if inGps (g + 1) = true then (0 : Int) else 9) = E at H2
        have hge : 6000000000 ≤ g := by omega
        clear i0 hin hc
        go_enter Tryd.func5, Tryd.ntmps5
        go_wp2_with fail
        refine (H1 _ (K.out _ _ ht G)).out.mono ?_
        rintro e w1 ⟨rfl, g⟩
        replace G := G.trans g
        clear g
        go_wp2_with fail
        refine (H2 _ (K.out _ _ ht G)).out.mono ?_
        rintro e w2 ⟨rfl, g⟩
        replace G := G.trans g
        clear g
        go_wp2_with fail
        all_goals go_ret
        all_goals exact ⟨rfl, G⟩

set_option maxRecDepth 1000000 in
set_option maxHeartbeats 4000000 in
theorem walk_LeapTimes {T : World → Prop} (P : LeapCalls T) (g sec : Int) (is : Bool) (w : World) (ht : T w) (hg : -9223372036854775808 ≤ g ∧ g ≤ 9223372036854775807) (hs : -9223372036854775808 ≤ sec ∧ sec ≤ 9223372036854775807)
    (hNext : ∀ w, T w → Hid (Calls Tryd.prog 8 #[.int .i64 g] w fun e w' => e = .returned (.tuple #[.int .i64 (nextTill g 19).1, .bool (nextTill g 19).2]) ∧ Grew w w')) :
    Calls Tryd.prog 3 #[.int .i64 g, .int .i64 sec, .bool is] w fun e w' => e = .returned (.bool true) ∧ Grew w w' := by
  have HK := fun w ht => Lib.hid (leap_known P w ht)
  have K := Lib.hid P.keep
  have G := Grew.refl w
  have H1 := fun w ht => Lib.hid (P.off g w hg ht)
  have H2 := fun w ht => Lib.hid (P.utc g w hg ht)
  have H3 := fun w => Lib.hid (ref04_Next g w hg)
  have H4 := fun w => Lib.hid (ref04_In g w hg)
  have H5 := fun w ht => Lib.hid (P.gps sec is w hs ht)
  have H6 : ∀ w, Hid (Calls Tryd.prog 14 #[.int .i64 sec, .bool is] w fun e w' => e = .returned (.tuple #[.int .i64 (gpsOf sec is).1, .int .i64 (gpsOf sec is).2]) ∧ Grew w w') := fun w => by
    by_cases hb : sec < 2524953600 ∨ 9000000000 < sec
    · have := ref04_GPS_over sec is w hs hb
      have e : gpsOf sec is = (0, 9) := by rw [gpsOf, if_pos hb]
      rw [e]; exact Lib.hid this
    · exact Lib.hid (ref04_GPS_in sec is w (by omega))
  generalize (nextTill g 19).1 = n1 at hNext H3
  generalize (nextTill g 19).2 = n2 at hNext H3
  generalize (gpsOf sec is).1 = k1 at H5 H6
  generalize (gpsOf sec is).2 = k2 at H5 H6
  by_cases hin : inGps g = true
  · have hb : 0 ≤ g ∧ g ≤ 6000000000 := by simpa [inGps] using hin
    have H7 := fun w => Lib.hid (ref04_UTC g w (by omega) (by omega))
    have H8 := fun w => Lib.hid (ref04_Offset g w hg)
    simp only [hin, if_true, Bool.true_and] at H1 H2 H4
    generalize utcOf g = u at *
    generalize leapOfG g = l at *
    generalize offOf g = o at *
    clear hin hb
    go_enter Tryd.func3, Tryd.ntmps3
    go_wp2_with (first
      | (go_at_call 6; refine (H1 _ (K.out _ _ ht G)).out.mono ?_; rintro e w' ⟨rfl, hg⟩; replace G := G.trans hg; clear hg)
      | (go_at_call 7; refine (H2 _ (K.out _ _ ht G)).out.mono ?_; rintro e w' ⟨rfl, hg⟩; replace G := G.trans hg; clear hg)
      | (go_at_call 8; refine (hNext _ (K.out _ _ ht G)).out.mono ?_; rintro e w' ⟨rfl, hg⟩; replace G := G.trans hg; clear hg)
      | (go_at_call 9; refine (H3 _).out.mono ?_; rintro e w' ⟨rfl, hg⟩; replace G := G.trans hg; clear hg)
      | (go_at_call 10; refine (H4 _).out.mono ?_; rintro e w' ⟨rfl, hg⟩; replace G := G.trans hg; clear hg)
      | (go_at_call 13; refine (H5 _ (K.out _ _ ht G)).out.mono ?_; rintro e w' ⟨rfl, hg⟩; replace G := G.trans hg; clear hg)
      | (go_at_call 14; refine (H6 _).out.mono ?_; rintro e w' ⟨rfl, hg⟩; replace G := G.trans hg; clear hg)
      | (go_at_call 11; refine (H7 _).out.mono ?_; rintro e w' ⟨rfl, hg⟩; replace G := G.trans hg; clear hg)
      | (go_at_call 12; refine (H8 _).out.mono ?_; rintro e w' ⟨rfl, hg⟩; replace G := G.trans hg; clear hg)
      | (go_at_call 15; refine (HK _ (K.out _ _ ht G)).out.mono ?_; rintro e w' ⟨rfl, hg⟩; replace G := G.trans hg; clear hg))
    go_ret
    exact ⟨rfl, G⟩
  · have hf : inGps g = false := by simpa using hin
    simp only [hf, if_false, Bool.false_eq_true, Bool.false_and] at H1 H2 H4
    clear hin hf
    go_enter Tryd.func3, Tryd.ntmps3
    go_wp2_with (first
      | (go_at_call 6; refine (H1 _ (K.out _ _ ht G)).out.mono ?_; rintro e w' ⟨rfl, hg⟩; replace G := G.trans hg; clear hg)
      | (go_at_call 7; refine (H2 _ (K.out _ _ ht G)).out.mono ?_; rintro e w' ⟨rfl, hg⟩; replace G := G.trans hg; clear hg)
      | (go_at_call 8; refine (hNext _ (K.out _ _ ht G)).out.mono ?_; rintro e w' ⟨rfl, hg⟩; replace G := G.trans hg; clear hg)
      | (go_at_call 9; refine (H3 _).out.mono ?_; rintro e w' ⟨rfl, hg⟩; replace G := G.trans hg; clear hg)
      | (go_at_call 10; refine (H4 _).out.mono ?_; rintro e w' ⟨rfl, hg⟩; replace G := G.trans hg; clear hg)
      | (go_at_call 13; refine (H5 _ (K.out _ _ ht G)).out.mono ?_; rintro e w' ⟨rfl, hg⟩; replace G := G.trans hg; clear hg)
      | (go_at_call 14; refine (H6 _).out.mono ?_; rintro e w' ⟨rfl, hg⟩; replace G := G.trans hg; clear hg)
      | (go_at_call 15; refine (HK _ (K.out _ _ ht G)).out.mono ?_; rintro e w' ⟨rfl, hg⟩; replace G := G.trans hg; clear hg))
    go_ret
    exact ⟨rfl, G⟩
end Go.Proofs.YtnfijelcnemgbaaDoor

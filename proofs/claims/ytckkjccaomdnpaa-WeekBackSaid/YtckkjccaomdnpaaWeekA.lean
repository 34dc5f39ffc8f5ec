/-
  Contracts of the document's weeks.
-/
import Derived.Test.YtckkjccaomdnpaaRefI
import Derived.Test.YtckkjccaomdnpaaCmp
namespace Go.Proofs.Ytckkjccaomdnpaa
open Go.RowKit
set_option linter.unusedVariables false

/-- The second of a week, or why none; the second near a floor, or why none. -/
def joinOf (week tow : Int) : Int × Int := if week < 0 ∨ tow < 0 ∨ 604799 < tow then (0, 2) else if 6000000000 < week * 604800 + tow then (0, 9) else (week * 604800 + tow, 0)
def weekNear (gps weeks floor : Int) : Int × Int :=
  if weeks < 1 ∨ 1024 < weeks ∨ inGps floor = false then (0, 2) else if gps < -1152921504606846976 ∨ 1152921504606846976 < gps then (0, 9)
  else if inGps (floor + (gps - floor) % (weeks * 604800)) = true then (floor + (gps - floor) % (weeks * 604800), 0) else (0, 9)

theorem ret_truth {a b : Bool} (h : a = b) : Ending.returned (.bool a) = .returned (.bool b) := by rw [h]
theorem ref05_In (g : Int) (w : World) (hg : -9223372036854775808 ≤ g ∧ g ≤ 9223372036854775807) :
    Calls Try.prog 9 #[.int .i64 g] w fun e w' => e = .returned (.bool (inGps g)) ∧ Grew w w' := by
  go_enter Try.func9, Try.ntmps9
  go_wp2
  all_goals go_ret
  all_goals (refine ⟨ret_truth ?_, Grew.refl _⟩; rw [Bool.eq_iff_iff]; simp [inGps])
  all_goals omega

set_option maxHeartbeats 1000000 in
theorem ref05_Split (g : Int) (w : World) (hg : -9223372036854775808 ≤ g ∧ g ≤ 9223372036854775807) :
    Calls Try.prog 11 #[.int .i64 g] w fun e w' => e = .returned (.tuple #[.int .i64 (g / 604800), .int .i64 (g % 604800)]) ∧ Grew w w' := by
  obtain ⟨q, hq⟩ : ∃ q, g / 604800 = q := ⟨_, rfl⟩
  obtain ⟨r, hr⟩ : ∃ r, g % 604800 = r := ⟨_, rfl⟩
  have bq : held q = q := held_in _ (by omega) (by omega)
  have br : held r = r := held_in _ (by omega) (by omega)
  rw [hq, hr]
  have HQ := Lib.hid hq; have HR := Lib.hid hr; have BQ := Lib.hid bq; have BR := Lib.hid br
  clear hq hr bq br
  go_enter Try.func11, Try.ntmps11
  go_wp2_with fail
  refine (ref_Of g _ hg).mono ?_
  rintro e w1 ⟨v1, rfl, hN1, hg1⟩
  go_wp2_with fail
  refine (ref_Of 604800 _ (by omega)).mono ?_
  rintro e w2 ⟨v2, rfl, hN2, hg2⟩
  go_wp2_with fail
  refine (ref_Down _ _ g 604800 2 2 _ (hN1.grew hg2).num hN2.num (by omega) (by omega) (by omega)).mono ?_
  rw [HQ.out, HR.out]
  rintro e w3 ⟨v3, u3, rfl, hN3, hU3, hg3⟩
  obtain ⟨A3, n3, c3, rfl⟩ := hN3.form
  obtain ⟨A4, n4, c4, rfl⟩ := hU3.form
  generalize decide (q < 0) = pb at hN3 ⊢
  generalize decide (r < 0) = qb at hU3 ⊢
  go_wp2_with fail
  obtain ⟨W, hW, g0, x, e1⟩ := two_new w3 (.bool pb) (.slice A3 n3 c3) (.bool qb) (.slice A4 n4 c4) 37
  rw [hW]
  clear hW
  replace hN3 := hN3.grew g0
  replace hU3 := hU3.grew g0
  replace g0 := ((hg1.trans hg2).trans hg3).trans g0
  have G : Grew W W.drew := (Grew.refl W).drew
  clear hN1 hN2 hg1 hg2 hg3
  obtain ⟨x0, x1, x2, x3⟩ := x
  go_region_held3 (fun w' => w'.cell? ⟨w3.heap.size, 0, none⟩ = some (.bool pb) ∧ w'.cell? ⟨w3.heap.size, 1, none⟩ = some (.slice A3 n3 c3) ∧ w'.cell? ⟨w3.heap.size + 1, 0, none⟩ = some (.bool qb) ∧ w'.cell? ⟨w3.heap.size + 1, 1, none⟩ = some (.slice A4 n4 c4))
    (exact four_keep G (by omega) (by omega) x0 x1 x2 x3)
    (first
      | (go_at_call 21; (with_reducible refine (ref_Held (.agg #[.bool qb, .slice A4 n4 c4]) r _ _ (hU3.grew G) (by omega)).mono ?_); rw [BR.out]; rintro e w' ⟨rfl, hg⟩; replace G := G.trans hg; clear hg)
      | (go_at_call 21; (with_reducible refine (ref_Held (.agg #[.bool pb, .slice A3 n3 c3]) q _ _ (hN3.grew G) (by omega)).mono ?_); rw [BQ.out]; rintro e w' ⟨rfl, hg⟩; replace G := G.trans hg; clear hg))
  go_wp2
  go_ret2
  exact ⟨rfl, g0.trans G⟩

theorem ref05_Join_arg (week tow : Int) (w : World) (hw : -9223372036854775808 ≤ week ∧ week ≤ 9223372036854775807) (ht : -9223372036854775808 ≤ tow ∧ tow ≤ 9223372036854775807) (hb : week < 0 ∨ tow < 0 ∨ 604799 < tow) :
    Calls Try.prog 8 #[.int .i64 week, .int .i64 tow] w fun e w' => e = .returned (.tuple #[.int .i64 0, .int .i64 2]) ∧ Grew w w' := by
  rcases (show week < 0 ∨ (0 ≤ week ∧ tow < 0) ∨ (0 ≤ week ∧ 604799 < tow) by omega) with hb | ⟨hb, hc⟩ | ⟨hb, hc⟩
  all_goals
    go_enter Try.func8, Try.ntmps8
    go_wp2_with fail
    go_ret2
    exact ⟨rfl, Grew.refl _⟩

set_option maxHeartbeats 1000000 in
theorem ref05_Join_some (week tow : Int) (w : World) (hw : 0 ≤ week ∧ week ≤ 9223372036854775807) (ht : 0 ≤ tow ∧ tow ≤ 604799) :
    Calls Try.prog 8 #[.int .i64 week, .int .i64 tow] w fun e w' => e = .returned (.tuple #[.int .i64 (joinOf week tow).1, .int .i64 (joinOf week tow).2]) ∧ Grew w w' := by
  obtain ⟨X, HX⟩ : ∃ X, Hid (week * 604800 + tow = X) := ⟨_, Lib.hid rfl⟩
  have hX : 0 ≤ X := by have := HX.out; omega
  have HJ : Hid (joinOf week tow = if 6000000000 < X then (0, 9) else (X, 0)) := by show _ = _; rw [joinOf, if_neg (by omega), HX.out]
  obtain ⟨p, HP⟩ : ∃ p, Hid (joinOf week tow = p) := ⟨_, Lib.hid rfl⟩
  rw [HP.out] at HJ ⊢
  obtain ⟨k, HK⟩ : ∃ k, Hid (cmpInt X 6000000000 = k) := ⟨_, Lib.hid rfl⟩
  have hk : -1 ≤ k ∧ k ≤ 1 := by have := HK.out; unfold cmpInt at this; (repeat' split at this) <;> omega
  have HKX : Hid (0 < k ↔ 6000000000 < X) := Lib.hid (by have := HK.out; unfold cmpInt at this; (repeat' split at this) <;> omega)
  go_enter Try.func8, Try.ntmps8
  go_wp2_with fail
  refine (ref_Of week _ (by omega)).mono ?_
  rintro e w1 ⟨v1, rfl, hN1, hg1⟩
  go_wp2_with fail
  refine (ref_Of 604800 _ (by omega)).mono ?_
  rintro e w2 ⟨v2, rfl, hN2, hg2⟩
  go_wp2_with fail
  refine (ref_Mul _ _ week 604800 2 2 _ (hN1.grew hg2).num hN2.num (by omega) (by omega)).mono ?_
  rintro e w3 ⟨v3, rfl, hN3, hg3⟩
  go_wp2_with fail
  refine (ref_Of tow _ (by omega)).mono ?_
  rintro e w4 ⟨v4, rfl, hN4, hg4⟩
  go_wp2_with fail
  refine (ref_Add _ _ (week * 604800) tow (2 + 64 * 2) 2 _ (hN3.grew hg4).num hN4.num (by omega) (by omega)).mono ?_
  rw [HX.out]
  rintro e w5 ⟨v5, rfl, hN5, hg5⟩
  obtain ⟨A5, n5, c5, rfl⟩ := hN5.form
  generalize decide (X < 0) = pb at hN5 ⊢
  go_wp2_with fail
  obtain ⟨W, hW, g0, x0, x1, e1⟩ := one_new w5 (.bool pb) (.slice A5 n5 c5) 37
  rw [hW]
  clear hW
  replace hN5 := hN5.grew g0
  replace g0 := ((((hg1.trans hg2).trans hg3).trans hg4).trans hg5).trans g0
  have G : Grew W W.drew := (Grew.refl W).drew
  clear hN1 hN2 hN3 hN4 hg1 hg2 hg3 hg4 hg5
  go_region_held3 (fun w' => w'.cell? ⟨w5.heap.size, 0, none⟩ = some (.bool pb) ∧ w'.cell? ⟨w5.heap.size, 1, none⟩ = some (.slice A5 n5 c5))
    (exact two_keep G e1 x0 x1)
    (first
      | (go_at_call 19; refine (ref_Of 6000000000 _ (by omega)).mono ?_; rintro e w6 ⟨v6, rfl, hN6, hg⟩; replace G := G.trans hg; clear hg)
      | (go_at_call 20; refine (ref_Cmp (.agg #[.bool pb, .slice A5 n5 c5]) _ X 6000000000 _ 2 _ (hN5.grew G).num hN6.num (by omega) (by omega)).mono ?_; rw [HK.out]; rintro e w7 ⟨rfl, hg⟩; replace G := G.trans hg; clear hg))
  obtain ⟨y0, y1⟩ := two_keep G e1 x0 x1
  by_cases hl : 6000000000 < X
  · have hpos : 0 < k := HKX.out.2 hl
    have HJ2 : Hid (p = (0, 9)) := by show _ = _; rw [HJ.out, if_pos hl]
    go_wp2_with fail
    go_ret2
    exact ⟨by rw [HJ2.out]; rfl, g0.trans G⟩
  · have hneg : ¬0 < k := fun h => hl (HKX.out.1 h)
    have hle : k ≤ 0 := by omega
    have HJ2 : Hid (p = (X, 0)) := by show _ = _; rw [HJ.out, if_neg hl]
    have BX : Hid (held X = X) := held_in _ (by omega) (by omega)
    clear hneg hl
    go_wp2_with fail
    refine (ref_Held _ X _ _ (hN5.grew G) (by omega)).mono ?_
    rw [BX.out]
    rintro e w8 ⟨rfl, hg8⟩
    go_wp2_with fail
    go_ret2
    exact ⟨by rw [HJ2.out]; rfl, g0.trans (G.trans hg8)⟩

theorem ref05_Join (week tow : Int) (w : World) (hw : -9223372036854775808 ≤ week ∧ week ≤ 9223372036854775807) (ht : -9223372036854775808 ≤ tow ∧ tow ≤ 9223372036854775807) :
    Calls Try.prog 8 #[.int .i64 week, .int .i64 tow] w fun e w' => e = .returned (.tuple #[.int .i64 (joinOf week tow).1, .int .i64 (joinOf week tow).2]) ∧ Grew w w' := by
  by_cases hb : week < 0 ∨ tow < 0 ∨ 604799 < tow
  · rw [show joinOf week tow = (0, 2) by rw [joinOf, if_pos hb]]
    exact ref05_Join_arg week tow w hw ht hb
  · exact ref05_Join_some week tow w (by omega) (by omega)

set_option maxHeartbeats 1000000 in
theorem ref05_Near_arg (gps weeks floor : Int) (w : World) (hg : -9223372036854775808 ≤ gps ∧ gps ≤ 9223372036854775807) (hw : -9223372036854775808 ≤ weeks ∧ weeks ≤ 9223372036854775807) (hf : -9223372036854775808 ≤ floor ∧ floor ≤ 9223372036854775807) (hb : weeks < 1 ∨ 1024 < weeks ∨ inGps floor = false) :
    Calls Try.prog 13 #[.int .i64 gps, .int .i64 weeks, .int .i64 floor] w fun e w' => e = .returned (.tuple #[.int .i64 0, .int .i64 2]) ∧ Grew w w' := by
  have hI := fun w => Lib.hid (ref05_In floor w hf)
  rcases (show weeks < 1 ∨ (1 ≤ weeks ∧ 1024 < weeks) ∨ ((1 ≤ weeks ∧ weeks ≤ 1024) ∧ inGps floor = false) by rcases hb with h | h | h; exact .inl h; exact .inr (.inl ⟨by omega, h⟩); (by_cases h1 : weeks < 1; exact .inl h1; (by_cases h2 : 1024 < weeks; exact .inr (.inl ⟨by omega, h2⟩); exact .inr (.inr ⟨by omega, h⟩)))) with hc | ⟨hc, hd⟩ | ⟨hc, hd⟩
  · go_enter Try.func13, Try.ntmps13
    go_wp2_with fail
    go_ret2
    exact ⟨rfl, Grew.refl _⟩
  · go_enter Try.func13, Try.ntmps13
    go_wp2_with fail
    go_ret2
    exact ⟨rfl, Grew.refl _⟩
  · rw [hd] at hI
    clear hd hb
    go_enter Try.func13, Try.ntmps13
    go_wp2_with fail
    refine (hI _).out.mono ?_
    rintro e w1 ⟨rfl, g1⟩
    go_wp2_with fail
    go_ret2
    exact ⟨rfl, g1⟩

set_option maxHeartbeats 1000000 in
theorem ref05_Near_over (gps weeks floor : Int) (w : World) (hg : -9223372036854775808 ≤ gps ∧ gps ≤ 9223372036854775807) (hw : 1 ≤ weeks ∧ weeks ≤ 1024) (hf : inGps floor = true) (hb : gps < -1152921504606846976 ∨ 1152921504606846976 < gps) :
    Calls Try.prog 13 #[.int .i64 gps, .int .i64 weeks, .int .i64 floor] w fun e w' => e = .returned (.tuple #[.int .i64 0, .int .i64 9]) ∧ Grew w w' := by
  have hF : 0 ≤ floor ∧ floor ≤ 6000000000 := by simpa [inGps] using hf
  have hI := fun w => Lib.hid (ref05_In floor w (by omega))
  rw [hf] at hI
  clear hf
  rcases hb with hb | hb
  all_goals
    go_enter Try.func13, Try.ntmps13
    go_wp2_with fail
    refine (hI _).out.mono ?_
    rintro e w1 ⟨rfl, g1⟩
    go_wp2_with fail
    go_ret2
    exact ⟨rfl, g1⟩

set_option maxRecDepth 100000 in
set_option maxHeartbeats 2000000 in
theorem ref05_Near_some (gps weeks floor : Int) (w : World) (hg : -1152921504606846976 ≤ gps ∧ gps ≤ 1152921504606846976) (hw : 1 ≤ weeks ∧ weeks ≤ 1024) (hf : inGps floor = true) :
    Calls Try.prog 13 #[.int .i64 gps, .int .i64 weeks, .int .i64 floor] w fun e w' => e = .returned (.tuple #[.int .i64 (weekNear gps weeks floor).1, .int .i64 (weekNear gps weeks floor).2]) ∧ Grew w w' := by
  have hF : 0 ≤ floor ∧ floor ≤ 6000000000 := by simpa [inGps] using hf
  have hI := fun w => Lib.hid (ref05_In floor w (by omega))
  rw [hf] at hI
  obtain ⟨n, hn⟩ : ∃ n, weeks * 604800 = n := ⟨_, rfl⟩
  have bn : 604800 ≤ n ∧ n ≤ 619315200 := by omega
  obtain ⟨d, hd⟩ : ∃ d, gps - floor = d := ⟨_, rfl⟩
  have hm0 := Int.emod_nonneg d (show n ≠ 0 by omega)
  have hm1 := Int.emod_lt_of_pos d (show 0 < n by omega)
  obtain ⟨r, hr⟩ : ∃ r, d % n = r := ⟨_, rfl⟩
  obtain ⟨q, hq⟩ : ∃ q, d / n = q := ⟨_, rfl⟩
  rw [hr] at hm0 hm1
  have br : held r = r := held_in _ (by omega) (by omega)
  have HJ : Hid (weekNear gps weeks floor = if inGps (floor + r) = true then (floor + r, 0) else (0, 9)) := by
    show _ = _; rw [weekNear, if_neg (by rw [hf]; simp; omega), if_neg (by omega), hn, hd, hr]
  obtain ⟨p, HP⟩ : ∃ p, Hid (weekNear gps weeks floor = p) := ⟨_, Lib.hid rfl⟩
  rw [HP.out] at HJ ⊢
  have HN := Lib.hid hn; have HD := Lib.hid hd; have HR := Lib.hid hr; have HQ := Lib.hid hq; have BR := Lib.hid br
  have hI2 := fun w => Lib.hid (ref05_In (floor + r) w (by omega))
  generalize hib : inGps (floor + r) = ib at hI2 HJ
  clear hn hd hr hq br hib hf
  go_enter Try.func13, Try.ntmps13
  go_wp2_with fail
  refine (hI _).out.mono ?_
  rintro e w0 ⟨rfl, hg0⟩
  clear hI
  go_wp2_with fail
  refine (ref_Of gps _ (by omega)).mono ?_
  rintro e w1 ⟨v1, rfl, hN1, hg1⟩
  go_wp2_with fail
  refine (ref_Of floor _ (by omega)).mono ?_
  rintro e w2 ⟨v2, rfl, hN2, hg2⟩
  go_wp2_with fail
  refine (ref_Sub _ _ gps floor 2 2 _ (hN1.grew hg2).num hN2.num (by omega) (by omega)).mono ?_
  rw [HD.out]
  rintro e w3 ⟨v3, rfl, hN3, hg3⟩
  go_wp2_with fail
  refine (ref_Of (weeks * 604800) _ (by omega)).mono ?_
  rw [HN.out]
  rintro e w4 ⟨v4, rfl, hN4, hg4⟩
  go_wp2_with fail
  refine (ref_Down _ _ d n (max 2 2 + 1) 2 _ (hN3.grew hg4).num hN4.num (by omega) (by omega) (by omega)).mono ?_
  rw [HQ.out, HR.out]
  rintro e w5 ⟨v5, u5, rfl, hN5, hU5, hg5⟩
  obtain ⟨A3, n3, c3, rfl⟩ := hN5.form
  obtain ⟨A4, n4, c4, rfl⟩ := hU5.form
  generalize decide (q < 0) = pb at hN5 ⊢
  generalize decide (r < 0) = qb at hU5 ⊢
  have G := (((((hg0.trans hg1).trans hg2).trans hg3).trans hg4).trans hg5)
  clear hN1 hN2 hN3 hN4 hN5 hg0 hg1 hg2 hg3 hg4 hg5
  go_wp2_with fail
  refine (ref_Held _ r _ _ (hU5.grew (((Grew.refl _).alloc _).alloc _)) (by omega)).mono ?_
  rw [BR.out]
  rintro e w6 ⟨rfl, hg6⟩
  replace G := ((G.alloc _).alloc _).trans hg6
  clear hg6 hU5
  go_wp2_with fail
  refine (hI2 _).out.mono ?_
  rintro e w7 ⟨rfl, hg7⟩
  replace G := G.trans hg7
  cases ib
  · have HJ2 : Hid (p = (0, 9)) := by show _ = _; rw [HJ.out, if_neg (by simp)]
    go_wp2_with fail
    go_ret2
    exact ⟨by rw [HJ2.out]; rfl, G⟩
  · have HJ2 : Hid (p = (floor + r, 0)) := by show _ = _; rw [HJ.out, if_pos rfl]
    go_wp2_with fail
    go_ret2
    exact ⟨by rw [HJ2.out]; rfl, G⟩

theorem ref05_Near (gps weeks floor : Int) (w : World) (hg : -9223372036854775808 ≤ gps ∧ gps ≤ 9223372036854775807) (hw : -9223372036854775808 ≤ weeks ∧ weeks ≤ 9223372036854775807) (hf : -9223372036854775808 ≤ floor ∧ floor ≤ 9223372036854775807) :
    Calls Try.prog 13 #[.int .i64 gps, .int .i64 weeks, .int .i64 floor] w fun e w' => e = .returned (.tuple #[.int .i64 (weekNear gps weeks floor).1, .int .i64 (weekNear gps weeks floor).2]) ∧ Grew w w' := by
  by_cases hb : weeks < 1 ∨ 1024 < weeks ∨ inGps floor = false
  · rw [show weekNear gps weeks floor = (0, 2) by rw [weekNear, if_pos hb]]
    exact ref05_Near_arg gps weeks floor w hg hw hf hb
  · have h1 : (1 ≤ weeks ∧ weeks ≤ 1024) ∧ inGps floor = true := by
      refine ⟨by omega, ?_⟩
      cases h : inGps floor
      · exact absurd (.inr (.inr h)) hb
      · rfl
    by_cases hc : gps < -1152921504606846976 ∨ 1152921504606846976 < gps
    · rw [show weekNear gps weeks floor = (0, 9) by rw [weekNear, if_neg hb, if_pos hc]]
      exact ref05_Near_over gps weeks floor w hg h1.1 h1.2 hc
    · exact ref05_Near_some gps weeks floor w (by omega) h1.1 h1.2
end Go.Proofs.Ytckkjccaomdnpaa

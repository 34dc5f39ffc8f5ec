/-
  Contracts of the document's leap seconds: offsets, UTC seconds, the next line.
-/
import Derived.Test.YtnfijelcnemgbaaDoorLeapA
import Derived.LoopTactic
namespace Go.Proofs.YtnfijelcnemgbaaDoor
open Go.RowKit
set_option linter.unusedVariables false

/-- The offset of the last of the first lines whose GPS second is not above. -/
def offTill (g : Int) : Nat → Int
  | 0 => 0
  | n + 1 => if lineG n ≤ g then n else offTill g n
def offOf (g : Int) : Int := offTill g 19
/-- Is it the second ahead of one of the lines 1 to n? -/
def leapTill (g : Int) : Nat → Bool
  | 0 => false
  | n + 1 => leapTill g n || (lineG (n + 1) - 1 == g)
def leapOfG (g : Int) : Bool := leapTill g 18
def utcOf (g : Int) : Int := g - offOf g + 2524953600
/-- The next line of the last n ones. -/
def nextTill (g : Int) : Nat → Int × Bool
  | 0 => (0, false)
  | n + 1 => if g < lineG (18 - n) then (lineG (18 - n), true) else nextTill g n

theorem offTill_le (g : Int) : ∀ n, n ≤ 19 → 0 ≤ offTill g n ∧ offTill g n ≤ 18
  | 0, _ => by simp [offTill]
  | n + 1, h => by
    have := offTill_le g n (by omega)
    unfold offTill; split <;> omega
theorem lineG_bound : ∀ i : Fin 19, 0 ≤ lineG i ∧ lineG i ≤ 2000000000 := by decide +kernel

theorem ref04_In (g : Int) (w : World) (hg : -9223372036854775808 ≤ g ∧ g ≤ 9223372036854775807) :
    Calls Tryd.prog 10 #[.int .i64 g] w fun e w' => e = .returned (.bool (inGps g)) ∧ Grew w w' := by
  go_enter Tryd.func10, Tryd.ntmps10
  go_wp2
  all_goals go_ret
  all_goals (refine ⟨ret_bool ?_, Grew.refl _⟩; rw [Bool.eq_iff_iff]; simp [inGps])
  all_goals omega

set_option maxHeartbeats 1000000 in
theorem ref04_Offset (g : Int) (w : World) (hg : -9223372036854775808 ≤ g ∧ g ≤ 9223372036854775807) :
    Calls Tryd.prog 12 #[.int .i64 g] w fun e w' => e = .returned (.int .i64 (offOf g)) ∧ Grew w w' := by
  have HF : Hid (offTill g 19 = offOf g) := rfl
  go_enter Tryd.func12, Tryd.ntmps12
  go_wp2_with fail
  refine (ref04_Table _).mono ?_
  rintro e w1 ⟨v, rfl, hT, g1⟩
  obtain ⟨b, c, rfl, hb, hT⟩ := hT
  have HT := Lib.hid hT
  clear hT
  go_wp2_with fail
  go_loop [4, 5] (fun o i => ∃ (k : Nat) (z : Int), k ≤ 19 ∧ i = .int .i64 (k : Nat) ∧ o = .int .i64 z ∧ Hid (offTill g k = z)) (fun _ i => 19 - (intOf i).toNat)
  case atStart => exact ⟨0, 0, by omega, rfl, rfl, rfl⟩
  case round =>
    obtain ⟨k, z, hk, rfl, rfl, hz⟩ := hrel
    by_cases hlt : k < 19
    · obtain ⟨_, c1, c2⟩ := HT.out k hlt
      obtain ⟨G, hG⟩ : ∃ G, Hid (lineG k = G) := ⟨_, Lib.hid rfl⟩
      rw [hG.out] at c1
      by_cases hle : G ≤ g
      · have hn : Hid (offTill g (k + 1) = k) := by show _ = _; rw [offTill, hG.out, if_pos hle]
        go_wp2_with fail
        go_round
        case rel => exact ⟨k + 1, k, by omega, by simp, rfl, hn⟩
        case measure => simp [intOf]; omega
      · have hn : Hid (offTill g (k + 1) = z) := by show _ = _; rw [offTill, hG.out, if_neg hle, hz.out]
        go_wp2_with fail
        go_round
        case rel => exact ⟨k + 1, z, by omega, by simp, rfl, hn⟩
        case measure => simp [intOf]; omega
    · obtain rfl : k = 19 := by omega
      go_wp2_with fail
      go_ret
      exact ⟨ret_int (by rw [← hz.out, HF.out]), g1⟩

set_option maxHeartbeats 1000000 in
theorem ref04_UTC (g : Int) (w : World) (hg : -9223372036854775808 ≤ g ∧ g ≤ 9000000000000000000) (hg0 : -9000000000000000000 ≤ g) :
    Calls Tryd.prog 11 #[.int .i64 g] w fun e w' => e = .returned (.tuple #[.int .i64 (utcOf g), .bool (leapOfG g)]) ∧ Grew w w' := by
  have HF : Hid (leapTill g 18 = leapOfG g) := rfl
  have hO := fun w => Lib.hid (ref04_Offset g w (by omega))
  have ho := offTill_le g 19 (by omega)
  obtain ⟨o, HO⟩ : ∃ o, Hid (offOf g = o) := ⟨_, Lib.hid rfl⟩
  have HU : Hid (utcOf g = g - o + 2524953600) := by show _ = _; rw [utcOf, HO.out]
  rw [show offTill g 19 = offOf g from rfl, HO.out] at ho
  rw [HO.out] at hO
  go_enter Tryd.func11, Tryd.ntmps11
  go_wp2_with fail
  refine (ref04_Table _).mono ?_
  rintro e w1 ⟨v, rfl, hT, g1⟩
  obtain ⟨b, c, rfl, hb, hT⟩ := hT
  have HT := Lib.hid hT
  clear hT
  go_wp2_with fail
  go_loop [5, 6] (fun l i => ∃ (k : Nat) (z : Bool), k ≤ 18 ∧ i = .int .i64 ((k : Int) + 1) ∧ l = .bool z ∧ Hid (leapTill g k = z)) (fun _ i => 19 - (intOf i).toNat)
  case atStart => exact ⟨0, false, by omega, rfl, rfl, rfl⟩
  case round =>
    obtain ⟨k, z, hk, rfl, rfl, hz⟩ := hrel
    by_cases hlt : k < 18
    · obtain ⟨_, c1, _⟩ := HT.out (k + 1) (by omega)
      have hGb := lineG_bound ⟨k + 1, by omega⟩
      simp only at hGb
      obtain ⟨G, hG⟩ : ∃ G, Hid (lineG (k + 1) = G) := ⟨_, Lib.hid rfl⟩
      rw [hG.out] at c1 hGb
      have hn : Hid (leapTill g (k + 1) = (z || (G - 1 == g))) := by show _ = _; rw [leapTill, hz.out, hG.out]
      cases z
      · generalize hq : (G - 1 == g) = q at hn
        go_wp2_with fail
        go_round
        case rel => exact ⟨k + 1, q, by omega, by simp, by simp [← hq], by simpa using hn⟩
        case measure => simp [intOf]; omega
      · go_wp2_with fail
        go_round
        case rel => exact ⟨k + 1, true, by omega, by simp, rfl, by simpa using hn⟩
        case measure => simp [intOf]; omega
    · obtain rfl : k = 18 := by omega
      have hzz : Hid (z = leapOfG g) := by show _ = _; rw [← hz.out, HF.out]
      go_wp2_with fail
      refine (hO _).out.mono ?_
      rintro e w2 ⟨rfl, g2⟩
      go_wp2_with fail
      go_ret2
      refine ⟨?_, g1.trans g2⟩
      rw [HU.out, ← hzz.out]
      rfl

set_option maxHeartbeats 1000000 in
theorem ref04_Next (g : Int) (w : World) (hg : -9223372036854775808 ≤ g ∧ g ≤ 9223372036854775807) :
    Calls Tryd.prog 9 #[.int .i64 g] w fun e w' => e = .returned (.tuple #[.int .i64 (nextTill g 19).1, .bool (nextTill g 19).2]) ∧ Grew w w' := by
  obtain ⟨p, HF⟩ : ∃ p, Hid (nextTill g 19 = p) := ⟨_, Lib.hid rfl⟩
  rw [HF.out]
  obtain ⟨p1, p2⟩ := p
  go_enter Tryd.func9, Tryd.ntmps9
  go_wp2_with fail
  refine (ref04_Table _).mono ?_
  rintro e w1 ⟨v, rfl, hT, g1⟩
  obtain ⟨b, c, rfl, hb, hT⟩ := hT
  have HT := Lib.hid hT
  clear hT
  go_wp2_with fail
  go_loop [5, 6, 7] (fun o q i => ∃ (j : Nat) (i' z : Int) (f : Bool), j ≤ 19 ∧ i = .int .i64 i' ∧ Hid (i' = (j : Int) - 1) ∧ o = .int .i64 z ∧ q = .bool f ∧ Hid (nextTill g (19 - j) = (z, f))) (fun _ _ i => (intOf i + 1).toNat)
  case atStart => exact ⟨19, 18, 0, false, by omega, rfl, rfl, rfl, rfl, rfl⟩
  case round =>
    obtain ⟨j, i', z, f, hj, rfl, hi, rfl, rfl, hz⟩ := hrel
    by_cases hlt : 0 < j
    · obtain ⟨k, rfl⟩ : ∃ k, j = k + 1 := ⟨j - 1, by omega⟩
      obtain rfl : i' = (k : Int) := by have := hi.out; omega
      clear hi hlt
      obtain ⟨_, c1, c2⟩ := HT.out k (by omega)
      obtain ⟨G, hG⟩ : ∃ G, Hid (lineG k = G) := ⟨_, Lib.hid rfl⟩
      rw [hG.out] at c1
      have hn : Hid (nextTill g (19 - k) = if g < G then (G, true) else (z, f)) := by
        show _ = _
        rw [show 19 - k = 19 - (k + 1) + 1 by omega, nextTill, show 18 - (19 - (k + 1)) = k by omega, hG.out, hz.out]
      by_cases hle : g < G
      · have hm : Hid (nextTill g (19 - k) = (G, true)) := by show _ = _; rw [hn.out, if_pos hle]
        clear hn hz
        go_wp2_with fail
        go_round
        case rel => exact ⟨k, (k : Int) - 1, G, true, by omega, rfl, rfl, rfl, rfl, hm⟩
        case measure => simp [intOf]
      · have hm : Hid (nextTill g (19 - k) = (z, f)) := by show _ = _; rw [hn.out, if_neg hle]
        clear hn hz
        go_wp2_with fail
        go_round
        case rel => exact ⟨k, (k : Int) - 1, z, f, by omega, rfl, rfl, rfl, rfl, hm⟩
        case measure => simp [intOf]
    · obtain rfl : j = 0 := by omega
      obtain rfl : i' = -1 := by have := hi.out; omega
      have he : Hid ((z, f) = (p1, p2)) := by show _ = _; rw [← hz.out, ← HF.out]
      clear hi hlt hz
      go_wp2_with fail
      go_ret2
      refine ⟨?_, g1⟩
      have := he.out
      simp only [Prod.mk.injEq] at this
      rw [← this.1, ← this.2]
      rfl

/-- Is it the GPS second that is asked for? -/
def gpsHit (sec : Int) (leap : Bool) (g : Int) : Bool := inGps g && ((utcOf g == sec) && (leapOfG g == leap))
def gpsScan (sec : Int) (leap : Bool) (g : Int) : Nat → Int × Int
  | 0 => (0, 5)
  | n + 1 => if gpsHit sec leap g = true then (g, 0) else gpsScan sec leap (g + 1) n
def gpsOf (sec : Int) (leap : Bool) : Int × Int :=
  if sec < 2524953600 ∨ 9000000000 < sec then (0, 9)
  else if 6000000000 < sec - 2524953600 + offOf (sec - 2524953600 + 18) then (0, 9)
  else gpsScan sec leap (sec - 2524953600) 19

set_option maxHeartbeats 2000000 in
theorem ref04_GPS_over (sec : Int) (leap : Bool) (w : World) (hs : -9223372036854775808 ≤ sec ∧ sec ≤ 9223372036854775807) (hb : sec < 2524953600 ∨ 9000000000 < sec) :
    Calls Tryd.prog 14 #[.int .i64 sec, .bool leap] w fun e w' => e = .returned (.tuple #[.int .i64 0, .int .i64 9]) ∧ Grew w w' := by
  rcases hb with hb | hb
  all_goals
    go_enter Tryd.func14, Tryd.ntmps14
    go_wp2_with fail
    go_ret2
    exact ⟨rfl, Grew.refl _⟩

set_option maxHeartbeats 2000000 in
theorem ref04_GPS_in (sec : Int) (leap : Bool) (w : World) (hs : 2524953600 ≤ sec ∧ sec ≤ 9000000000) :
    Calls Tryd.prog 14 #[.int .i64 sec, .bool leap] w fun e w' => e = .returned (.tuple #[.int .i64 (gpsOf sec leap).1, .int .i64 (gpsOf sec leap).2]) ∧ Grew w w' := by
  obtain ⟨o, HO⟩ : ∃ o, Hid (offOf (sec - 2524953600 + 18) = o) := ⟨_, Lib.hid rfl⟩
  have ho := offTill_le (sec - 2524953600 + 18) 19 (by omega)
  rw [show offTill (sec - 2524953600 + 18) 19 = offOf (sec - 2524953600 + 18) from rfl, HO.out] at ho
  have hO := fun w => Lib.hid (ref04_Offset (sec - 2524953600 + 18) w (by omega))
  rw [HO.out] at hO
  have HG : Hid (gpsOf sec leap = if 6000000000 < sec - 2524953600 + o then (0, 9) else gpsScan sec leap (sec - 2524953600) 19) := by
    show _ = _; rw [gpsOf, if_neg (by omega), HO.out]
  by_cases hl : 6000000000 < sec - 2524953600 + o
  · have HG2 : Hid (gpsOf sec leap = (0, 9)) := by show _ = _; rw [HG.out, if_pos hl]
    rw [HG2.out]
    clear HG
    go_enter Tryd.func14, Tryd.ntmps14
    go_wp2_with fail
    refine (hO _).out.mono ?_
    rintro e w1 ⟨rfl, g1⟩
    go_wp2_with fail
    go_ret2
    exact ⟨rfl, g1⟩
  · have HG2 : Hid (gpsOf sec leap = gpsScan sec leap (sec - 2524953600) 19) := by show _ = _; rw [HG.out, if_neg hl]
    clear HG
    obtain ⟨p, HP⟩ : ∃ p, Hid (gpsOf sec leap = p) := ⟨_, Lib.hid rfl⟩
    rw [HP.out] at HG2 ⊢
    obtain ⟨p1, p2⟩ := p
    go_enter Tryd.func14, Tryd.ntmps14
    go_wp2_with fail
    refine (hO _).out.mono ?_
    rintro e w1 ⟨rfl, g1⟩
    clear hO
    go_wp2_with fail
    go_loopw [7] (fun i wr => ∃ (k : Nat) (g : Int), k ≤ 19 ∧ i = .int .i64 g ∧ Hid (g = sec - 2524953600 + (19 - (k : Int))) ∧ Hid (gpsScan sec leap g k = (p1, p2)) ∧ Grew w wr) (fun i _ => (sec - 2524953600 + 19 - intOf i).toNat)
    case atStart => exact ⟨19, sec - 2524953600, by omega, rfl, Lib.hid (by omega), Lib.hid HG2.out.symm, g1⟩
    case round =>
      clear g1
      obtain ⟨k, g, hk, rfl, hgk, hsc, hg⟩ := hrel
      have hgb : sec - 2524953600 ≤ g ∧ g ≤ sec - 2524953600 + 19 := by have := hgk.out; omega
      by_cases hlt : g ≤ sec - 2524953600 + 18
      · obtain ⟨j, rfl⟩ : ∃ j, k = j + 1 := ⟨k - 1, by have := hgk.out; omega⟩
        have hI := fun w => Lib.hid (ref04_In g w (by omega))
        have hU := fun w => Lib.hid (ref04_UTC g w (by omega) (by omega))
        have hstep : Hid (gpsScan sec leap g (j + 1) = if gpsHit sec leap g = true then (g, 0) else gpsScan sec leap (g + 1) j) := Lib.hid rfl
        have hh : Hid (gpsHit sec leap g = (inGps g && ((utcOf g == sec) && (leapOfG g == leap)))) := Lib.hid rfl
        generalize inGps g = bi at hI hh
        generalize utcOf g = u at hU hh
        generalize leapOfG g = lp at hU hh
        cases bi
        · have hno : Hid (gpsScan sec leap (g + 1) j = (p1, p2)) := by
            show _ = _; rw [← hsc.out, hstep.out, if_neg (by rw [hh.out]; simp)]
          go_wp2_with fail
          refine (hI _).out.mono ?_
          rintro e w2 ⟨rfl, g2⟩
          go_wp2_with fail
          go_roundw
          case rel => exact ⟨j, g + 1, by omega, rfl, Lib.hid (by have := hgk.out; omega), hno, hg.trans g2⟩
          case measure => simp [intOf]; omega
        · by_cases hq : u = sec ∧ lp = leap
          · obtain ⟨rfl, rfl⟩ := hq
            have hyes : Hid ((g, (0 : Int)) = (p1, p2)) := by show _ = _; rw [← hsc.out, hstep.out, if_pos (by rw [hh.out]; simp)]
            have hb0 : (lp == lp) = true := by simp
            go_wp2_with fail
            refine (hI _).out.mono ?_
            rintro e w2 ⟨rfl, g2⟩
            go_wp2_with fail
            refine (hU _).out.mono ?_
            rintro e w3 ⟨rfl, g3⟩
            go_wp2_with fail
            go_ret2
            refine ⟨?_, hg.trans (g2.trans g3)⟩
            have := hyes.out
            simp only [Prod.mk.injEq] at this
            rw [← this.1, ← this.2]
            rfl
          · have hno : Hid (gpsScan sec leap (g + 1) j = (p1, p2)) := by
              show _ = _; rw [← hsc.out, hstep.out, if_neg (by rw [hh.out]; simpa using hq)]
            have hb1 : (u == sec) = false ∨ ((u == sec) = true ∧ (lp == leap) = false) := by
              by_cases h1 : u = sec
              · right; exact ⟨by simpa using h1, by simpa using fun h2 => hq ⟨h1, h2⟩⟩
              · left; simpa using h1
            clear hq
            rcases hb1 with hb1 | ⟨hb1, hb2⟩
            all_goals
              go_wp2_with fail
              refine (hI _).out.mono ?_
              rintro e w2 ⟨rfl, g2⟩
              go_wp2_with fail
              refine (hU _).out.mono ?_
              rintro e w3 ⟨rfl, g3⟩
              go_wp2_with fail
              go_roundw
              case rel => exact ⟨j, g + 1, by omega, rfl, Lib.hid (by have := hgk.out; omega), hno, hg.trans (g2.trans g3)⟩
              case measure => simp [intOf]; omega
      · obtain rfl : k = 0 := by have := hgk.out; omega
        have hend : Hid ((0, (5 : Int)) = (p1, p2)) := hsc
        go_wp2_with fail
        go_ret2
        refine ⟨?_, hg⟩
        have := hend.out
        simp only [Prod.mk.injEq] at this
        rw [← this.1, ← this.2]
        rfl
end Go.Proofs.YtnfijelcnemgbaaDoor

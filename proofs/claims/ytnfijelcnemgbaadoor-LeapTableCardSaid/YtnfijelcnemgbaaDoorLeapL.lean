/-
  The program's GPS seconds; all of its calls on leap seconds.
-/
import Derived.Test.YtnfijelcnemgbaaDoorLeapK
namespace Go.Proofs.YtnfijelcnemgbaaDoor
open Go.RowKit
set_option linter.unusedVariables false

theorem gps_all (sec : Int) (leap : Bool) (i : Nat) (h : ULine sec i) (h2 : 2524953600 ≤ sec) :
    gpsOf sec leap = if 6000000000 < sec - 2524953600 + i then (0, 9) else if leap = false then (sec - 2524953600 + i, 0) else if 1 ≤ i ∧ sec = lineU i then (sec - 2524953600 + i - 1, 0) else (0, 5) := by
  by_cases h9 : sec ≤ 9000000000
  · exact gps_form sec leap i h h9
  · unfold gpsOf; rw [if_pos (by omega), if_pos (by omega)]

set_option maxHeartbeats 2000000 in
theorem leap_GPS (sec : Int) (l : Bool) (w : World) (hs : -9223372036854775808 ≤ sec ∧ sec ≤ 9223372036854775807) (ht : Tab w) :
    Calls Tryd.prog 13 #[.int .i64 sec, .bool l] w fun e w' => e = .returned (.tuple #[.int .i64 (gpsOf sec l).1, .int .i64 (gpsOf sec l).2]) ∧ Grew w w' := by
  by_cases hlo : sec < 2524953600
  · have he : gpsOf sec l = (0, 9) := by rw [gpsOf, if_pos (Or.inl hlo)]
    rw [he]
    go_enter Tryd.func13, Tryd.ntmps13
    go_wp2_with fail
    go_ret2
    exact ⟨rfl, (Grew.refl w).alloc _⟩
  · obtain ⟨k, ul⟩ := u_line sec (by omega)
    have HF := Lib.hid (gps_all sec l k ul (by omega))
    have k18 := ul.1
    have hG : lineG k = lineU k - 2524953600 + k := rfl
    have G0 := (Grew.refl w).alloc (.cells #[.int .i64 sec] 2)
    have cp : (w.alloc (.cells #[.int .i64 sec] 2)).cell? ⟨w.heap.size, 0, none⟩ = some (.int .i64 sec) := by simp [go_sem]
    have hA := leap_GPS1 sec ⟨w.heap.size, 0, none⟩ (k + 1) (w.alloc (.cells #[.int .i64 sec] 2)) cp ul.above
    have H := Lib.hid (leap_lineAhead 22 #[.pointer (some ⟨w.heap.size, 0, none⟩)] k _ enters_GPS1 (ht.grew G0) leap_Table hA k18)
    have H2 := fun w => Lib.hid (leap_fromEpoch sec k w (by omega) (by omega))
    have hu := lineU_top ⟨k, by omega⟩
    simp only at hu
    have hul := ul.2.1
    have hul0 : 0 ≤ lineG k := (lineG_bound ⟨k, by omega⟩).1
    clear hA ul
    rw [hG] at H hul0
    clear hG
    generalize lineU k = u at *
    generalize hgo : gpsOf sec l = r at *
    clear hgo
    have G1 : ∀ w1, Grew (w.alloc (.cells #[.int .i64 sec] 2)) w1 → Hid (Grew w (w1.alloc (.cells #[.int .i64 u, .int .i64 (u - 2524953600 + k), .int .i64 (k : Nat)] 37))) := fun w1 g => Lib.hid ((G0.trans g).alloc _)
    have C1 : ∀ w1, Grew (w.alloc (.cells #[.int .i64 sec] 2)) w1 → Hid ((w1.alloc (.cells #[.int .i64 u, .int .i64 (u - 2524953600 + k), .int .i64 (k : Nat)] 37)).cell? ⟨w.heap.size, 0, none⟩ = some (.int .i64 sec)) := fun w1 g =>
      Lib.hid (((g.alloc _).cell (World.block_lt_of_cell? _ _ cp)).trans cp)
    clear G0 cp ht
    by_cases hov : 6000000000 < sec - 2524953600 + k
    · rw [if_pos hov] at HF
      have HR := Lib.hid HF.out
      clear HF
      go_enter Tryd.func13, Tryd.ntmps13
      go_wp2_with fail
      refine H.out.mono ?_
      rintro e w1 ⟨rfl, g1⟩
      have G := G1 _ g1
      have cc := (C1 _ g1).out
      clear H G1 C1 g1
      go_wp2_with fail
      refine (H2 _).out.mono ?_
      rintro e w2 ⟨rfl, rfl⟩
      go_wp2_with fail
      go_ret2
      exact ⟨by rw [HR.out]; rfl, G.out⟩
    · rw [if_neg hov] at HF
      cases l
      · rw [if_pos rfl] at HF
        have HR := Lib.hid HF.out
        clear HF
        go_enter Tryd.func13, Tryd.ntmps13
        go_wp2_with fail
        refine H.out.mono ?_
        rintro e w1 ⟨rfl, g1⟩
        have G := G1 _ g1
        have cc := (C1 _ g1).out
        clear H G1 C1 g1
        go_wp2_with fail
        refine (H2 _).out.mono ?_
        rintro e w2 ⟨rfl, rfl⟩
        go_wp2_with fail
        go_ret2
        exact ⟨by rw [HR.out]; rfl, G.out⟩
      · rw [if_neg (by decide)] at HF
        by_cases hne : sec = u
        · by_cases hk : k = 0
          · rw [if_neg (by omega)] at HF
            have HR := Lib.hid HF.out
            clear HF
            subst hne
            have q : ((k : Int) == 0) = true := by simp [hk]
            clear hk
            go_enter Tryd.func13, Tryd.ntmps13
            go_wp2_with fail
            refine H.out.mono ?_
            rintro e w1 ⟨rfl, g1⟩
            have G := G1 _ g1
            have cc := (C1 _ g1).out
            clear H G1 C1 g1
            go_wp2_with fail
            refine (H2 _).out.mono ?_
            rintro e w2 ⟨rfl, rfl⟩
            go_wp2_with fail
            go_ret2
            exact ⟨by rw [HR.out]; rfl, G.out⟩
          · rw [if_pos ⟨by omega, hne⟩] at HF
            have HR := Lib.hid HF.out
            clear HF
            subst hne
            have q : ((k : Int) == 0) = false := by simp; omega
            clear hk
            go_enter Tryd.func13, Tryd.ntmps13
            go_wp2_with fail
            refine H.out.mono ?_
            rintro e w1 ⟨rfl, g1⟩
            have G := G1 _ g1
            have cc := (C1 _ g1).out
            clear H G1 C1 g1
            go_wp2_with fail
            refine (H2 _).out.mono ?_
            rintro e w2 ⟨rfl, rfl⟩
            go_wp2_with fail
            go_ret2
            exact ⟨by rw [HR.out]; rfl, G.out⟩
        · rw [if_neg (by omega)] at HF
          have HR := Lib.hid HF.out
          clear HF
          have q : (u != sec) = true := by simp; omega
          clear hne
          go_enter Tryd.func13, Tryd.ntmps13
          go_wp2_with fail
          refine H.out.mono ?_
          rintro e w1 ⟨rfl, g1⟩
          have G := G1 _ g1
          have cc := (C1 _ g1).out
          clear H G1 C1 g1
          go_wp2_with fail
          refine (H2 _).out.mono ?_
          rintro e w2 ⟨rfl, rfl⟩
          go_wp2_with fail
          go_ret2
          exact ⟨by rw [HR.out]; rfl, G.out⟩

theorem leap_calls : LeapCalls Tab where
  keep := fun w w' h g => h.grew g
  off := leap_Offset
  utc := leap_UTC
  gps := leap_GPS
end Go.Proofs.YtnfijelcnemgbaaDoor

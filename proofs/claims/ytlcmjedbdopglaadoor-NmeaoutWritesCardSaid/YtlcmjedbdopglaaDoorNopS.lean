/-
  The document's sentences: commands, a second's.
-/
import Derived.Test.YtlcmjedbdopglaaDoorNopR
import Derived.Test.YtlcmjedbdopglaaDoorNopC
namespace Go.Proofs.YtlcmjedbdopglaaDoor
open Go.RowKit
set_option linter.unusedVariables false

set_option maxHeartbeats 1000000 in
theorem ref11_Rate (k : Nat) (every : Int) (w : World) (hk : k < 256) (hv : -9223372036854775808 ≤ every ∧ every ≤ 9223372036854775807) :
    Calls Tryd.prog 8 #[.int .u8 (k : Nat), .int .i64 every] w (CmdT (cmdErr k every) (rateB (kindText k) every.toNat) w) := by
  have HM := fun w => ref11_may k every w hk hv
  by_cases h0 : cmdErr k every = 0
  · rw [h0] at HM
    replace HM := fun w => Lib.hid (HM w)
    have hkk : 1 ≤ k ∧ k ≤ 7 := by
      unfold cmdErr at h0
      by_cases q : k = 0 ∨ 7 < k
      · rw [if_pos q] at h0; cases h0
      · omega
    have he : 0 ≤ every ∧ every ≤ 10 := by
      unfold cmdErr at h0
      rw [if_neg (by omega)] at h0
      by_cases q : every < 0 ∨ 10 < every
      · rw [if_pos q] at h0; cases h0
      · omega
    rw [h0, cmdT_ok]
    obtain ⟨n, rfl⟩ : ∃ n : Nat, every = n := ⟨every.toNat, by omega⟩
    rw [Int.toNat_natCast]
    have HL := fun w => Lib.hid (ref11_Letters k w hk)
    have hL := kindText_size k
    have hE := every_size n
    have HS := fun w => ref11_Sentence (rateB (kindText k) n) w (by rw [rateB_size]; omega)
    obtain ⟨er, hEr⟩ : ∃ er, Hid (sentErr (rateB (kindText k) n) = er) := ⟨_, Lib.hid rfl⟩
    obtain ⟨L, hLr⟩ : ∃ L, Hid (sentRow (rateB (kindText k) n) = L) := ⟨_, Lib.hid rfl⟩
    rw [hEr.out, hLr.out] at HS
    rw [hEr.out, hLr.out]
    clear hEr hLr
    have HD := fun w => Lib.hid (ref11_digits n 1 w (by omega) (by decide))
    have hu := Lib.hid (show rateB (kindText k) n = (⟨#[80, 85, 66, 88, 44, 52, 48, 44]⟩ : ByteArray) ++ kindText k ++ (⟨#[44, 48, 44]⟩ : ByteArray) ++ everyB n ++ (⟨#[44, 48, 44, 48, 44, 48, 44, 48]⟩ : ByteArray) from rfl)
    rw [hu.out] at HS
    replace HS := fun w => Lib.hid (HS w)
    clear hu h0
    generalize kindText k = A at *
    have j1 : ¬ 9223372036854775807 < 8 + A.size := by omega
    have j2 : ¬ 9223372036854775807 < 8 + A.size + 3 := by omega
    by_cases h10 : n = 10
    · subst h10
      rw [show everyB 10 = ⟨#[49, 48]⟩ from rfl] at HS
      have j3 : ¬ 9223372036854775807 < 8 + A.size + 3 + 2 := by omega
      have j4 : ¬ 9223372036854775807 < 8 + A.size + 3 + 2 + 8 := by omega
      clear hE
      go_enter Tryd.func8, Tryd.ntmps8
      go_wp2_with (first | (go_at_call 18; refine (HM _).out.mono ?_; rintro e w1 ⟨rfl, g1⟩) | (go_at_call 19; refine (HD _).out.mono ?_; rintro e w2 ⟨rfl, g2⟩) | (go_at_call 20; refine (HL _).out.mono ?_; rintro e w3 ⟨rfl, rfl⟩) | (go_at_call 6; refine (HS _).out.mono ?_; rintro e w4 ⟨v, rfl, hrow, g4⟩))
      go_ret2
      exact ⟨v, rfl, hrow, (g1.trans g2).trans g4⟩
    · have hn : ¬ (n : Int) = 10 := by omega
      have hev : everyB n = digB 1 n := by unfold everyB; rw [if_neg h10]
      rw [hev] at HS hE
      generalize digB 1 n = B at *
      have j3 : ¬ 9223372036854775807 < 8 + A.size + 3 + B.size := by omega
      have j4 : ¬ 9223372036854775807 < 8 + A.size + 3 + B.size + 8 := by omega
      clear hev h10 hE
      go_enter Tryd.func8, Tryd.ntmps8
      go_wp2_with (first | (go_at_call 18; refine (HM _).out.mono ?_; rintro e w1 ⟨rfl, g1⟩) | (go_at_call 19; refine (HD _).out.mono ?_; rintro e w2 ⟨rfl, g2⟩) | (go_at_call 20; refine (HL _).out.mono ?_; rintro e w3 ⟨rfl, rfl⟩) | (go_at_call 6; refine (HS _).out.mono ?_; rintro e w4 ⟨v, rfl, hrow, g4⟩))
      go_ret2
      exact ⟨v, rfl, hrow, (g1.trans g2).trans g4⟩
  · generalize cmdErr k every = er at *
    replace HM := fun w => Lib.hid (HM w)
    have h1 : ((er : Int) == 0) = false := by simp; omega
    have h2 : ¬ (er : Int) = 0 := by omega
    have H := fun w' g => Lib.hid (cmdT_no (s := rateB (kindText k) every.toNat) (w := w) (w' := w') h0 g)
    clear h0
    go_enter Tryd.func8, Tryd.ntmps8
    go_wp2_with (first | (go_at_call 18; refine (HM _).out.mono ?_; rintro e w1 ⟨rfl, g1⟩))
    go_ret2
    exact (H _ g1).out

set_option maxHeartbeats 1000000 in
theorem ref11_Ask (k : Nat) (every : Int) (w : World) (hk : k < 256) (hv : -9223372036854775808 ≤ every ∧ every ≤ 9223372036854775807) :
    Calls Tryd.prog 10 #[.int .u8 (k : Nat), .int .i64 every] w (CmdT (cmdErr k every) (askB (kindNum k) every.toNat) w) := by
  have HM := fun w => ref11_may k every w hk hv
  by_cases h0 : cmdErr k every = 0
  · rw [h0] at HM
    replace HM := fun w => Lib.hid (HM w)
    have hkk : 1 ≤ k ∧ k ≤ 7 := by
      unfold cmdErr at h0
      by_cases q : k = 0 ∨ 7 < k
      · rw [if_pos q] at h0; cases h0
      · omega
    have he : 0 ≤ every ∧ every ≤ 10 := by
      unfold cmdErr at h0
      rw [if_neg (by omega)] at h0
      by_cases q : every < 0 ∨ 10 < every
      · rw [if_pos q] at h0; cases h0
      · omega
    rw [h0, cmdT_ok]
    obtain ⟨n, rfl⟩ : ∃ n : Nat, every = n := ⟨every.toNat, by omega⟩
    rw [Int.toNat_natCast]
    have HN := fun w => Lib.hid (ref11_number k w hkk)
    have hm := kindNum_lt k
    generalize kindNum k = m at *
    have HS := fun w => ref11_Sentence (askB m n) w (by rw [askB_size]; decide)
    obtain ⟨er, hEr⟩ : ∃ er, Hid (sentErr (askB m n) = er) := ⟨_, Lib.hid rfl⟩
    obtain ⟨L, hLr⟩ : ∃ L, Hid (sentRow (askB m n) = L) := ⟨_, Lib.hid rfl⟩
    rw [hEr.out, hLr.out] at HS
    rw [hEr.out, hLr.out]
    clear hEr hLr
    have HDm := fun w => Lib.hid (ref11_digits m 2 w (by omega) (by decide))
    have HDn := fun w => Lib.hid (ref11_digits n 2 w (by omega) (by decide))
    have hu := Lib.hid (show askB m n = (⟨#[80, 83, 82, 70, 49, 48, 51, 44]⟩ : ByteArray) ++ digB 2 m ++ (⟨#[44, 48, 44]⟩ : ByteArray) ++ digB 2 n ++ (⟨#[44, 49]⟩ : ByteArray) from rfl)
    rw [hu.out] at HS
    replace HS := fun w => Lib.hid (HS w)
    have z1 := digB_size 2 m
    have z2 := digB_size 2 n
    clear hu h0
    generalize digB 2 m = A at *
    generalize digB 2 n = B at *
    have j1 : ¬ 9223372036854775807 < 8 + A.size := by omega
    have j2 : ¬ 9223372036854775807 < 8 + A.size + 3 := by omega
    have j3 : ¬ 9223372036854775807 < 8 + A.size + 3 + B.size := by omega
    have j4 : ¬ 9223372036854775807 < 8 + A.size + 3 + B.size + 2 := by omega
    clear z1 z2
    go_enter Tryd.func10, Tryd.ntmps10
    go_wp2_with (first | (go_at_call 18; refine (HM _).out.mono ?_; rintro e w1 ⟨rfl, g1⟩) | (go_at_call 21; refine (HN _).out.mono ?_; rintro e w2 ⟨rfl, g2⟩))
    refine (HDm _).out.mono ?_
    rintro e w3 ⟨rfl, g3⟩
    go_wp2_with fail
    refine (HDn _).out.mono ?_
    rintro e w4 ⟨rfl, g4⟩
    go_wp2_with (go_at_call 6; refine (HS _).out.mono ?_; rintro e w5 ⟨v, rfl, hrow, g5⟩)
    go_ret2
    exact ⟨v, rfl, hrow, (((g1.trans g2).trans g3).trans g4).trans g5⟩
  · generalize cmdErr k every = er at *
    replace HM := fun w => Lib.hid (HM w)
    have h1 : ((er : Int) == 0) = false := by simp; omega
    have h2 : ¬ (er : Int) = 0 := by omega
    have H := fun w' g => Lib.hid (cmdT_no (s := askB (kindNum k) every.toNat) (w := w) (w' := w') h0 g)
    clear h0
    go_enter Tryd.func10, Tryd.ntmps10
    go_wp2_with (first | (go_at_call 18; refine (HM _).out.mono ?_; rintro e w1 ⟨rfl, g1⟩))
    go_ret2
    exact (H _ g1).out
end Go.Proofs.YtlcmjedbdopglaaDoor

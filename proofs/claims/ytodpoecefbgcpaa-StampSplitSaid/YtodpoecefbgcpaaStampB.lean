/-
  The known answers of stamp.
-/
import Derived.Test.YtodpoecefbgcpaaStampA
namespace Go.Proofs.Ytodpoecefbgcpaa
open Go.RowKit
set_option linter.unusedVariables false

set_option maxHeartbeats 1000000 in
theorem stamp_known (w : World) : Calls Try.prog 13 #[] w fun e w' => e = .returned (.bool true) ∧ Grew w w' := by
  have c1 : stampOf 1 500000000 = 6442450944 := by decide +kernel
  have c2 : nearOf 1 4294967296 = 4294967297 := by decide +kernel
  have c3 : nsOf 2147483648 = 500000000 := by decide +kernel
  have c4 : shortOf 1 = 1 := by decide +kernel
  have c5 : shortOf 1000000000 = 65536 := by decide +kernel
  have H1 := fun w => Lib.hid (stamp_Of 1 500000000 w (by omega) (by omega))
  have H2 := fun w => Lib.hid (stamp_Of_bad 1 1000000000 w (by omega) (by omega) (by omega))
  have H3 := fun w => Lib.hid (stamp_Split 1 2147483648 4294967296 w (by omega) (by omega) (by omega))
  have H4 := fun w => Lib.hid (stamp_Short 1 w (by omega))
  have H5 := fun w => Lib.hid (stamp_Short 1000000000 w (by omega))
  rw [c1] at H1; rw [c2, c3, show (1 : Int) * 4294967296 + 2147483648 = 6442450944 from rfl] at H3; rw [c4] at H4; rw [c5] at H5
  clear c1 c2 c3 c4 c5
  go_enter Try.func13, Try.ntmps13
  go_wp2_with fail
  refine (H1 _).out.mono ?_
  rintro e w1 ⟨rfl, g1⟩
  go_wp2_with fail
  refine (H2 _).out.mono ?_
  rintro e w2 ⟨rfl, g2⟩
  go_wp2_with fail
  refine (H3 _).out.mono ?_
  rintro e w3 ⟨rfl, g3⟩
  go_wp2_with fail
  refine (H4 _).out.mono ?_
  rintro e w4 ⟨rfl, g4⟩
  go_wp2_with fail
  refine (H5 _).out.mono ?_
  rintro e w5 ⟨rfl, g5⟩
  go_wp2
  go_ret
  exact ⟨rfl, g1.trans (g2.trans (g3.trans (g4.trans g5)))⟩

theorem near_back (sec off : Int) (hs : -1152921504606846976 ≤ sec ∧ sec ≤ 1152921504606846976) (ho : -2147483648 < off ∧ off < 2147483648) : nearOf (sec % 4294967296) (sec + off) = sec := by
  have e : stepOf (sec % 4294967296) (sec + off) = -off := by unfold stepOf; omega
  unfold nearOf
  rw [e]
  (repeat' split) <;> omega
theorem ns_back (ns : Int) (hn : 0 ≤ ns ∧ ns ≤ 999999999) : nsOf (ns * 4294967296 / 1000000000) = ns := by
  unfold nsOf; omega
theorem stamp_rises (sec ns : Int) (hn : 0 ≤ ns) : stampOf sec ns < stampOf sec (ns + 1) := by
  unfold stampOf; omega
theorem short_facts (ns : Int) (hn : 0 ≤ ns ∧ ns ≤ 999999999) : 0 ≤ shortOf ns ∧ shortOf ns ≤ 65536 ∧ ns ≤ shortOf ns * 1000000000 / 65536 ∧ shortOf ns * 1000000000 / 65536 ≤ 1000000000 ∧ (shortOf ns ≠ 0 → (shortOf ns - 1) * 1000000000 / 65536 < ns ∧ 0 ≤ (shortOf ns - 1) * 1000000000 / 65536) := by
  have h : shortOf ns = 0 ∧ ns = 0 ∨ shortOf ns = (ns * 65536 + 999999999) / 1000000000 ∧ 0 < ns := by
    unfold shortOf; split <;> omega
  generalize shortOf ns = X at *
  omega

/-- A stamp by a pivot that is near comes back. -/
theorem split_back (sec ns off : Int) (w : World) (hs : -1152921504606846976 ≤ sec ∧ sec ≤ 1152921504606846976) (hn : 0 ≤ ns ∧ ns ≤ 999999999) (ho : -2147483648 < off ∧ off < 2147483648) :
    Calls Try.prog 14 #[.int .u64 (stampOf sec ns), .int .i64 (sec + off)] w fun e w' => e = .returned (.tuple #[.int .i64 sec, .int .i64 ns]) ∧ Grew w w' := by
  have h := stamp_Split (sec % 4294967296) (ns * 4294967296 / 1000000000) (sec + off) w (by omega) (by omega) (by omega)
  rw [near_back sec off hs ho, ns_back ns hn] at h
  exact h
end Go.Proofs.Ytodpoecefbgcpaa

/-
  The law of what a message may be: MessageMay's walk, a message of a kind that is told.
  What the row's list of tables gives: civil's lengths.
  Arguments that are a frame.
-/
import Derived.Test.YtnhigfkhdmkoeaaGreatDoorP18
import Derived.Test.YtnhigfkhdmkoeaaGreatDoorRows
import Derived.Test.YtnhigfkhdmkoeaaGreatDoorP05
import Derived.Lib.LaidTab
import Derived.Stop.LaidErr
import Derived.OpenShut
import Derived.ChangeSame
import Derived.Test.YtnhigfkhdmkoeaaGreatDoorP02
import Derived.ProofKit
import Derived.ChangeShapes
import Derived.ChangeSlices
import Derived.SizedLaws
import Derived.Deep.Matrix
import Derived.KernelRfl

namespace Go.Proofs.YtnhigfkhdmkoeaaGreatDoor
open Go.RowKit
set_option linter.unusedVariables false

-- [NONE
set_option maxRecDepth 1000000 in
set_option maxHeartbeats 4000000 in
theorem may_long (k : Nat) (v : Value) (S : List Nat) (w : World) (hr : Row .u8 w v S) (ht : Tab w) (hl : 1100 < S.length) :
    Calls Tryz.prog 4 #[.agg #[.int .u8 (k : Nat), v]] w fun e w' => e = .returned (.bool true) ∧ Grew w w' := by
  have HK := fun w ht => Lib.hid (law_known15 w ht)
  have HT := Lib.hid ht
  obtain ⟨A, c, rfl, _⟩ := hr
  clear ht
  have n1 : (1100 : Int) < S.length := by omega
  clear hl
  generalize S.length = n at *
  go_enter Tryz.func4, Tryz.ntmps4
  go_upto_region 1 with fail
  obtain ⟨W, hW, g0, T0⟩ := twoC_new w (.int .u8 (k : Nat)) (.slice A n c) 24
  rw [hW]
  clear hW
  obtain ⟨_, s0, s1, _, _⟩ := T0
  go_wp2_with (go_at_call 5; refine (HK _ (HT.out.grew g0)).out.mono ?_; rintro e w1 ⟨rfl, g1⟩)
  go_ret
  exact ⟨rfl, g0.trans g1⟩
set_option maxRecDepth 1000000 in
set_option maxHeartbeats 4000000 in
theorem may_none (k : Nat) (v : Value) (S : List Nat) (w : World) (hr : Row .u8 w v S) (hB : Bytes S) (ht : Tab w) (hl : S.length ≤ 1100) (hm : msgOf k S = none) :
    Calls Tryz.prog 4 #[.agg #[.int .u8 (k : Nat), v]] w fun e w' => e = .returned (.bool true) ∧ Grew w w' := by
  have HK := fun w ht => Lib.hid (law_known15 w ht)
  have HO := fun w' (g : Grew w w') => Lib.hid (prog_MsgOf k v S w' (hr.grew g) hB (by omega) (ht.grew g))
  rw [hm, show mgAns none = .tuple #[.agg #[.int .u8 0, .bool false, .int .i64 0, .bool false, .int .i64 0, .bool false], .bool false] from rfl] at HO
  have HT := Lib.hid ht
  obtain ⟨A, c, rfl, _⟩ := hr
  clear ht hm
  have n1 : ¬ (1100 : Int) < S.length := by omega
  clear hl
  generalize S.length = n at *
  go_enter Tryz.func4, Tryz.ntmps4
  go_upto_region 1 with fail
  obtain ⟨W, hW, g0, T0⟩ := twoC_new w (.int .u8 (k : Nat)) (.slice A n c) 24
  rw [hW]
  clear hW
  obtain ⟨_, s0, s1, _, _⟩ := T0
  go_upto_region 4 with (go_at_call 6; refine (HO _ g0).out.mono ?_; rintro e w1 ⟨rfl, g1⟩)
  obtain ⟨V, hV, k1, x1⟩ := six_new w1 (.int .u8 0) (.bool false) (.int .i64 0) (.bool false) (.int .i64 0) (.bool false) 27
  rw [hV]
  obtain ⟨_, c0, c1, c2, c3, c4, c5⟩ := x1
  clear hV
  have G := Lib.hid (g0.trans (g1.trans k1))
  go_wp2_with (go_at_call 5; refine (HK _ (HT.out.grew G.out)).out.mono ?_; rintro e w2 ⟨rfl, g2⟩)
  go_ret
  exact ⟨by first | rfl | simp, G.out.trans g2⟩
-- NONE]
-- [SOME
set_option maxRecDepth 1000000 in
set_option maxHeartbeats 4000000 in
theorem may_4 (k : Nat) (v : Value) (S : List Nat) (w : World) (hr : Row .u8 w v S) (hB : Bytes S) (ht : Tab w) (hl : S.length ≤ 1100) (sec : Int) (hs : 0 ≤ sec ∧ sec ≤ 9000000000000000000) (hm : msgOf k S = some { kind := 4, utc := false, sec := sec, leap := false, cycle := 0, next := false }) :
    Calls Tryz.prog 4 #[.agg #[.int .u8 (k : Nat), v]] w fun e w' => e = .returned (.bool true) ∧ Grew w w' := by
  have HK := fun w ht => Lib.hid (law_known15 w ht)
  have HO := fun w' (g : Grew w w') => Lib.hid (prog_MsgOf k v S w' (hr.grew g) hB (by omega) (ht.grew g))
  rw [hm, show mgAns (some { kind := 4, utc := false, sec := sec, leap := false, cycle := 0, next := false }) = .tuple #[.agg #[.int .u8 4, .bool false, .int .i64 sec, .bool false, .int .i64 0, .bool false], .bool true] from rfl] at HO
  have HT := Lib.hid ht
  obtain ⟨A, c, rfl, _⟩ := hr
  clear ht hm
  have n1 : ¬ (1100 : Int) < S.length := by omega
  clear hl
  generalize S.length = n at *
  go_enter Tryz.func4, Tryz.ntmps4
  go_upto_region 1 with fail
  obtain ⟨W, hW, g0, T0⟩ := twoC_new w (.int .u8 (k : Nat)) (.slice A n c) 24
  rw [hW]
  clear hW
  obtain ⟨_, s0, s1, _, _⟩ := T0
  go_upto_region 4 with (go_at_call 6; refine (HO _ g0).out.mono ?_; rintro e w1 ⟨rfl, g1⟩)
  obtain ⟨V, hV, k1, x1⟩ := six_new w1 (.int .u8 4) (.bool false) (.int .i64 sec) (.bool false) (.int .i64 0) (.bool false) 27
  rw [hV]
  obtain ⟨_, c0, c1, c2, c3, c4, c5⟩ := x1
  clear hV s0 s1
  have G := Lib.hid (g0.trans (g1.trans k1))
  go_wp2_with (go_at_call 5; refine (HK _ (HT.out.grew G.out)).out.mono ?_; rintro e w2 ⟨rfl, g2⟩)
  go_ret
  exact ⟨by first | rfl | simp | (simp [hs.1]; done), G.out.trans g2⟩
set_option maxRecDepth 1000000 in
set_option maxHeartbeats 4000000 in
theorem may_6 (k : Nat) (v : Value) (S : List Nat) (w : World) (hr : Row .u8 w v S) (hB : Bytes S) (ht : Tab w) (hl : S.length ≤ 1100) (sec : Int) (hs : 0 ≤ sec ∧ sec ≤ 9000000000000000000) (hm : msgOf k S = some { kind := 6, utc := false, sec := sec, leap := false, cycle := 0, next := true }) :
    Calls Tryz.prog 4 #[.agg #[.int .u8 (k : Nat), v]] w fun e w' => e = .returned (.bool true) ∧ Grew w w' := by
  have HK := fun w ht => Lib.hid (law_known15 w ht)
  have HO := fun w' (g : Grew w w') => Lib.hid (prog_MsgOf k v S w' (hr.grew g) hB (by omega) (ht.grew g))
  rw [hm, show mgAns (some { kind := 6, utc := false, sec := sec, leap := false, cycle := 0, next := true }) = .tuple #[.agg #[.int .u8 6, .bool false, .int .i64 sec, .bool false, .int .i64 0, .bool true], .bool true] from rfl] at HO
  have HT := Lib.hid ht
  obtain ⟨A, c, rfl, _⟩ := hr
  clear ht hm
  have n1 : ¬ (1100 : Int) < S.length := by omega
  clear hl
  generalize S.length = n at *
  go_enter Tryz.func4, Tryz.ntmps4
  go_upto_region 1 with fail
  obtain ⟨W, hW, g0, T0⟩ := twoC_new w (.int .u8 (k : Nat)) (.slice A n c) 24
  rw [hW]
  clear hW
  obtain ⟨_, s0, s1, _, _⟩ := T0
  go_upto_region 4 with (go_at_call 6; refine (HO _ g0).out.mono ?_; rintro e w1 ⟨rfl, g1⟩)
  obtain ⟨V, hV, k1, x1⟩ := six_new w1 (.int .u8 6) (.bool false) (.int .i64 sec) (.bool false) (.int .i64 0) (.bool true) 27
  rw [hV]
  obtain ⟨_, c0, c1, c2, c3, c4, c5⟩ := x1
  clear hV s0 s1
  have G := Lib.hid (g0.trans (g1.trans k1))
  go_wp2_with (go_at_call 5; refine (HK _ (HT.out.grew G.out)).out.mono ?_; rintro e w2 ⟨rfl, g2⟩)
  go_ret
  exact ⟨by first | rfl | simp | (simp [hs.1]; done), G.out.trans g2⟩
set_option maxRecDepth 1000000 in
set_option maxHeartbeats 4000000 in
theorem may_7 (k : Nat) (v : Value) (S : List Nat) (w : World) (hr : Row .u8 w v S) (hB : Bytes S) (ht : Tab w) (hl : S.length ≤ 1100) (sec : Int) (hs : 0 ≤ sec ∧ sec ≤ 9000000000000000000) (hm : msgOf k S = some { kind := 7, utc := false, sec := sec, leap := false, cycle := 1024, next := false }) :
    Calls Tryz.prog 4 #[.agg #[.int .u8 (k : Nat), v]] w fun e w' => e = .returned (.bool true) ∧ Grew w w' := by
  have HK := fun w ht => Lib.hid (law_known15 w ht)
  have HO := fun w' (g : Grew w w') => Lib.hid (prog_MsgOf k v S w' (hr.grew g) hB (by omega) (ht.grew g))
  rw [hm, show mgAns (some { kind := 7, utc := false, sec := sec, leap := false, cycle := 1024, next := false }) = .tuple #[.agg #[.int .u8 7, .bool false, .int .i64 sec, .bool false, .int .i64 1024, .bool false], .bool true] from rfl] at HO
  have HT := Lib.hid ht
  obtain ⟨A, c, rfl, _⟩ := hr
  clear ht hm
  have n1 : ¬ (1100 : Int) < S.length := by omega
  clear hl
  generalize S.length = n at *
  go_enter Tryz.func4, Tryz.ntmps4
  go_upto_region 1 with fail
  obtain ⟨W, hW, g0, T0⟩ := twoC_new w (.int .u8 (k : Nat)) (.slice A n c) 24
  rw [hW]
  clear hW
  obtain ⟨_, s0, s1, _, _⟩ := T0
  go_upto_region 4 with (go_at_call 6; refine (HO _ g0).out.mono ?_; rintro e w1 ⟨rfl, g1⟩)
  obtain ⟨V, hV, k1, x1⟩ := six_new w1 (.int .u8 7) (.bool false) (.int .i64 sec) (.bool false) (.int .i64 1024) (.bool false) 27
  rw [hV]
  obtain ⟨_, c0, c1, c2, c3, c4, c5⟩ := x1
  clear hV s0 s1
  have G := Lib.hid (g0.trans (g1.trans k1))
  go_wp2_with (go_at_call 5; refine (HK _ (HT.out.grew G.out)).out.mono ?_; rintro e w2 ⟨rfl, g2⟩)
  go_ret
  exact ⟨by first | rfl | simp | (simp [hs.1]; done), G.out.trans g2⟩
set_option maxRecDepth 1000000 in
set_option maxHeartbeats 4000000 in
theorem may_8 (k : Nat) (v : Value) (S : List Nat) (w : World) (hr : Row .u8 w v S) (hB : Bytes S) (ht : Tab w) (hl : S.length ≤ 1100) (sec : Int) (hs : 0 ≤ sec ∧ sec ≤ 9000000000000000000) (hm : msgOf k S = some { kind := 8, utc := false, sec := sec, leap := false, cycle := 1024, next := false }) :
    Calls Tryz.prog 4 #[.agg #[.int .u8 (k : Nat), v]] w fun e w' => e = .returned (.bool true) ∧ Grew w w' := by
  have HK := fun w ht => Lib.hid (law_known15 w ht)
  have HO := fun w' (g : Grew w w') => Lib.hid (prog_MsgOf k v S w' (hr.grew g) hB (by omega) (ht.grew g))
  rw [hm, show mgAns (some { kind := 8, utc := false, sec := sec, leap := false, cycle := 1024, next := false }) = .tuple #[.agg #[.int .u8 8, .bool false, .int .i64 sec, .bool false, .int .i64 1024, .bool false], .bool true] from rfl] at HO
  have HT := Lib.hid ht
  obtain ⟨A, c, rfl, _⟩ := hr
  clear ht hm
  have n1 : ¬ (1100 : Int) < S.length := by omega
  clear hl
  generalize S.length = n at *
  go_enter Tryz.func4, Tryz.ntmps4
  go_upto_region 1 with fail
  obtain ⟨W, hW, g0, T0⟩ := twoC_new w (.int .u8 (k : Nat)) (.slice A n c) 24
  rw [hW]
  clear hW
  obtain ⟨_, s0, s1, _, _⟩ := T0
  go_upto_region 4 with (go_at_call 6; refine (HO _ g0).out.mono ?_; rintro e w1 ⟨rfl, g1⟩)
  obtain ⟨V, hV, k1, x1⟩ := six_new w1 (.int .u8 8) (.bool false) (.int .i64 sec) (.bool false) (.int .i64 1024) (.bool false) 27
  rw [hV]
  obtain ⟨_, c0, c1, c2, c3, c4, c5⟩ := x1
  clear hV s0 s1
  have G := Lib.hid (g0.trans (g1.trans k1))
  go_wp2_with (go_at_call 5; refine (HK _ (HT.out.grew G.out)).out.mono ?_; rintro e w2 ⟨rfl, g2⟩)
  go_ret
  exact ⟨by first | rfl | simp | (simp [hs.1]; done), G.out.trans g2⟩
set_option maxRecDepth 1000000 in
set_option maxHeartbeats 4000000 in
theorem may_9 (k : Nat) (v : Value) (S : List Nat) (w : World) (hr : Row .u8 w v S) (hB : Bytes S) (ht : Tab w) (hl : S.length ≤ 1100) (sec : Int) (hs : 0 ≤ sec ∧ sec ≤ 9000000000000000000) (hm : msgOf k S = some { kind := 9, utc := false, sec := sec, leap := false, cycle := 0, next := false }) :
    Calls Tryz.prog 4 #[.agg #[.int .u8 (k : Nat), v]] w fun e w' => e = .returned (.bool true) ∧ Grew w w' := by
  have HK := fun w ht => Lib.hid (law_known15 w ht)
  have HO := fun w' (g : Grew w w') => Lib.hid (prog_MsgOf k v S w' (hr.grew g) hB (by omega) (ht.grew g))
  rw [hm, show mgAns (some { kind := 9, utc := false, sec := sec, leap := false, cycle := 0, next := false }) = .tuple #[.agg #[.int .u8 9, .bool false, .int .i64 sec, .bool false, .int .i64 0, .bool false], .bool true] from rfl] at HO
  have HT := Lib.hid ht
  obtain ⟨A, c, rfl, _⟩ := hr
  clear ht hm
  have n1 : ¬ (1100 : Int) < S.length := by omega
  clear hl
  generalize S.length = n at *
  go_enter Tryz.func4, Tryz.ntmps4
  go_upto_region 1 with fail
  obtain ⟨W, hW, g0, T0⟩ := twoC_new w (.int .u8 (k : Nat)) (.slice A n c) 24
  rw [hW]
  clear hW
  obtain ⟨_, s0, s1, _, _⟩ := T0
  go_upto_region 4 with (go_at_call 6; refine (HO _ g0).out.mono ?_; rintro e w1 ⟨rfl, g1⟩)
  obtain ⟨V, hV, k1, x1⟩ := six_new w1 (.int .u8 9) (.bool false) (.int .i64 sec) (.bool false) (.int .i64 0) (.bool false) 27
  rw [hV]
  obtain ⟨_, c0, c1, c2, c3, c4, c5⟩ := x1
  clear hV s0 s1
  have G := Lib.hid (g0.trans (g1.trans k1))
  go_wp2_with (go_at_call 5; refine (HK _ (HT.out.grew G.out)).out.mono ?_; rintro e w2 ⟨rfl, g2⟩)
  go_ret
  exact ⟨by first | rfl | simp | (simp [hs.1]; done), G.out.trans g2⟩
set_option maxRecDepth 1000000 in
set_option maxHeartbeats 4000000 in
theorem may_1 (k : Nat) (v : Value) (S : List Nat) (w : World) (hr : Row .u8 w v S) (hB : Bytes S) (ht : Tab w) (hl : S.length ≤ 1100) (sec : Int) (hs : 0 ≤ sec ∧ sec ≤ 9000000000000000000) (hm : msgOf k S = some { kind := 1, utc := true, sec := sec, leap := false, cycle := 100, next := false }) :
    Calls Tryz.prog 4 #[.agg #[.int .u8 (k : Nat), v]] w fun e w' => e = .returned (.bool true) ∧ Grew w w' := by
  have HK := fun w ht => Lib.hid (law_known15 w ht)
  have HO := fun w' (g : Grew w w') => Lib.hid (prog_MsgOf k v S w' (hr.grew g) hB (by omega) (ht.grew g))
  rw [hm, show mgAns (some { kind := 1, utc := true, sec := sec, leap := false, cycle := 100, next := false }) = .tuple #[.agg #[.int .u8 1, .bool true, .int .i64 sec, .bool false, .int .i64 100, .bool false], .bool true] from rfl] at HO
  have HT := Lib.hid ht
  obtain ⟨A, c, rfl, _⟩ := hr
  clear ht hm
  have n1 : ¬ (1100 : Int) < S.length := by omega
  clear hl
  generalize S.length = n at *
  go_enter Tryz.func4, Tryz.ntmps4
  go_upto_region 1 with fail
  obtain ⟨W, hW, g0, T0⟩ := twoC_new w (.int .u8 (k : Nat)) (.slice A n c) 24
  rw [hW]
  clear hW
  obtain ⟨_, s0, s1, _, _⟩ := T0
  go_upto_region 4 with (go_at_call 6; refine (HO _ g0).out.mono ?_; rintro e w1 ⟨rfl, g1⟩)
  obtain ⟨V, hV, k1, x1⟩ := six_new w1 (.int .u8 1) (.bool true) (.int .i64 sec) (.bool false) (.int .i64 100) (.bool false) 27
  rw [hV]
  obtain ⟨_, c0, c1, c2, c3, c4, c5⟩ := x1
  clear hV s0 s1
  have G := Lib.hid (g0.trans (g1.trans k1))
  go_wp2_with (go_at_call 5; refine (HK _ (HT.out.grew G.out)).out.mono ?_; rintro e w2 ⟨rfl, g2⟩)
  go_ret
  exact ⟨by first | rfl | simp | (simp [hs.1]; done), G.out.trans g2⟩
set_option maxRecDepth 1000000 in
set_option maxHeartbeats 4000000 in
theorem may_1l (k : Nat) (v : Value) (S : List Nat) (w : World) (hr : Row .u8 w v S) (hB : Bytes S) (ht : Tab w) (hl : S.length ≤ 1100) (sec : Int) (hs : 0 ≤ sec ∧ sec ≤ 9000000000000000000) (h59 : sec % 60 = 59) (hm : msgOf k S = some { kind := 1, utc := true, sec := sec, leap := true, cycle := 100, next := false }) :
    Calls Tryz.prog 4 #[.agg #[.int .u8 (k : Nat), v]] w fun e w' => e = .returned (.bool true) ∧ Grew w w' := by
  have HK := fun w ht => Lib.hid (law_known15 w ht)
  have HO := fun w' (g : Grew w w') => Lib.hid (prog_MsgOf k v S w' (hr.grew g) hB (by omega) (ht.grew g))
  rw [hm, show mgAns (some { kind := 1, utc := true, sec := sec, leap := true, cycle := 100, next := false }) = .tuple #[.agg #[.int .u8 1, .bool true, .int .i64 sec, .bool true, .int .i64 100, .bool false], .bool true] from rfl] at HO
  have HT := Lib.hid ht
  obtain ⟨A, c, rfl, _⟩ := hr
  clear ht hm
  have n1 : ¬ (1100 : Int) < S.length := by omega
  clear hl
  generalize S.length = n at *
  go_enter Tryz.func4, Tryz.ntmps4
  go_upto_region 1 with fail
  obtain ⟨W, hW, g0, T0⟩ := twoC_new w (.int .u8 (k : Nat)) (.slice A n c) 24
  rw [hW]
  clear hW
  obtain ⟨_, s0, s1, _, _⟩ := T0
  go_upto_region 4 with (go_at_call 6; refine (HO _ g0).out.mono ?_; rintro e w1 ⟨rfl, g1⟩)
  obtain ⟨V, hV, k1, x1⟩ := six_new w1 (.int .u8 1) (.bool true) (.int .i64 sec) (.bool true) (.int .i64 100) (.bool false) 27
  rw [hV]
  obtain ⟨_, c0, c1, c2, c3, c4, c5⟩ := x1
  clear hV s0 s1
  have G := Lib.hid (g0.trans (g1.trans k1))
  go_wp2_with (go_at_call 5; refine (HK _ (HT.out.grew G.out)).out.mono ?_; rintro e w2 ⟨rfl, g2⟩)
  go_ret
  exact ⟨by first | rfl | simp | (simp [hs.1]; done), G.out.trans g2⟩
set_option maxRecDepth 1000000 in
set_option maxHeartbeats 4000000 in
theorem may_2 (k : Nat) (v : Value) (S : List Nat) (w : World) (hr : Row .u8 w v S) (hB : Bytes S) (ht : Tab w) (hl : S.length ≤ 1100) (sec : Int) (hs : 0 ≤ sec ∧ sec ≤ 9000000000000000000) (hm : msgOf k S = some { kind := 2, utc := true, sec := sec, leap := false, cycle := 0, next := false }) :
    Calls Tryz.prog 4 #[.agg #[.int .u8 (k : Nat), v]] w fun e w' => e = .returned (.bool true) ∧ Grew w w' := by
  have HK := fun w ht => Lib.hid (law_known15 w ht)
  have HO := fun w' (g : Grew w w') => Lib.hid (prog_MsgOf k v S w' (hr.grew g) hB (by omega) (ht.grew g))
  rw [hm, show mgAns (some { kind := 2, utc := true, sec := sec, leap := false, cycle := 0, next := false }) = .tuple #[.agg #[.int .u8 2, .bool true, .int .i64 sec, .bool false, .int .i64 0, .bool false], .bool true] from rfl] at HO
  have HT := Lib.hid ht
  obtain ⟨A, c, rfl, _⟩ := hr
  clear ht hm
  have n1 : ¬ (1100 : Int) < S.length := by omega
  clear hl
  generalize S.length = n at *
  go_enter Tryz.func4, Tryz.ntmps4
  go_upto_region 1 with fail
  obtain ⟨W, hW, g0, T0⟩ := twoC_new w (.int .u8 (k : Nat)) (.slice A n c) 24
  rw [hW]
  clear hW
  obtain ⟨_, s0, s1, _, _⟩ := T0
  go_upto_region 4 with (go_at_call 6; refine (HO _ g0).out.mono ?_; rintro e w1 ⟨rfl, g1⟩)
  obtain ⟨V, hV, k1, x1⟩ := six_new w1 (.int .u8 2) (.bool true) (.int .i64 sec) (.bool false) (.int .i64 0) (.bool false) 27
  rw [hV]
  obtain ⟨_, c0, c1, c2, c3, c4, c5⟩ := x1
  clear hV s0 s1
  have G := Lib.hid (g0.trans (g1.trans k1))
  go_wp2_with (go_at_call 5; refine (HK _ (HT.out.grew G.out)).out.mono ?_; rintro e w2 ⟨rfl, g2⟩)
  go_ret
  exact ⟨by first | rfl | simp | (simp [hs.1]; done), G.out.trans g2⟩
set_option maxRecDepth 1000000 in
set_option maxHeartbeats 4000000 in
theorem may_2l (k : Nat) (v : Value) (S : List Nat) (w : World) (hr : Row .u8 w v S) (hB : Bytes S) (ht : Tab w) (hl : S.length ≤ 1100) (sec : Int) (hs : 0 ≤ sec ∧ sec ≤ 9000000000000000000) (h59 : sec % 60 = 59) (hm : msgOf k S = some { kind := 2, utc := true, sec := sec, leap := true, cycle := 0, next := false }) :
    Calls Tryz.prog 4 #[.agg #[.int .u8 (k : Nat), v]] w fun e w' => e = .returned (.bool true) ∧ Grew w w' := by
  have HK := fun w ht => Lib.hid (law_known15 w ht)
  have HO := fun w' (g : Grew w w') => Lib.hid (prog_MsgOf k v S w' (hr.grew g) hB (by omega) (ht.grew g))
  rw [hm, show mgAns (some { kind := 2, utc := true, sec := sec, leap := true, cycle := 0, next := false }) = .tuple #[.agg #[.int .u8 2, .bool true, .int .i64 sec, .bool true, .int .i64 0, .bool false], .bool true] from rfl] at HO
  have HT := Lib.hid ht
  obtain ⟨A, c, rfl, _⟩ := hr
  clear ht hm
  have n1 : ¬ (1100 : Int) < S.length := by omega
  clear hl
  generalize S.length = n at *
  go_enter Tryz.func4, Tryz.ntmps4
  go_upto_region 1 with fail
  obtain ⟨W, hW, g0, T0⟩ := twoC_new w (.int .u8 (k : Nat)) (.slice A n c) 24
  rw [hW]
  clear hW
  obtain ⟨_, s0, s1, _, _⟩ := T0
  go_upto_region 4 with (go_at_call 6; refine (HO _ g0).out.mono ?_; rintro e w1 ⟨rfl, g1⟩)
  obtain ⟨V, hV, k1, x1⟩ := six_new w1 (.int .u8 2) (.bool true) (.int .i64 sec) (.bool true) (.int .i64 0) (.bool false) 27
  rw [hV]
  obtain ⟨_, c0, c1, c2, c3, c4, c5⟩ := x1
  clear hV s0 s1
  have G := Lib.hid (g0.trans (g1.trans k1))
  go_wp2_with (go_at_call 5; refine (HK _ (HT.out.grew G.out)).out.mono ?_; rintro e w2 ⟨rfl, g2⟩)
  go_ret
  exact ⟨by first | rfl | simp | (simp [hs.1]; done), G.out.trans g2⟩
set_option maxRecDepth 1000000 in
set_option maxHeartbeats 4000000 in
theorem may_3 (k : Nat) (v : Value) (S : List Nat) (w : World) (hr : Row .u8 w v S) (hB : Bytes S) (ht : Tab w) (hl : S.length ≤ 1100) (sec : Int) (hs : 0 ≤ sec ∧ sec ≤ 9000000000000000000) (hm : msgOf k S = some { kind := 3, utc := true, sec := sec, leap := false, cycle := 0, next := false }) :
    Calls Tryz.prog 4 #[.agg #[.int .u8 (k : Nat), v]] w fun e w' => e = .returned (.bool true) ∧ Grew w w' := by
  have HK := fun w ht => Lib.hid (law_known15 w ht)
  have HO := fun w' (g : Grew w w') => Lib.hid (prog_MsgOf k v S w' (hr.grew g) hB (by omega) (ht.grew g))
  rw [hm, show mgAns (some { kind := 3, utc := true, sec := sec, leap := false, cycle := 0, next := false }) = .tuple #[.agg #[.int .u8 3, .bool true, .int .i64 sec, .bool false, .int .i64 0, .bool false], .bool true] from rfl] at HO
  have HT := Lib.hid ht
  obtain ⟨A, c, rfl, _⟩ := hr
  clear ht hm
  have n1 : ¬ (1100 : Int) < S.length := by omega
  clear hl
  generalize S.length = n at *
  go_enter Tryz.func4, Tryz.ntmps4
  go_upto_region 1 with fail
  obtain ⟨W, hW, g0, T0⟩ := twoC_new w (.int .u8 (k : Nat)) (.slice A n c) 24
  rw [hW]
  clear hW
  obtain ⟨_, s0, s1, _, _⟩ := T0
  go_upto_region 4 with (go_at_call 6; refine (HO _ g0).out.mono ?_; rintro e w1 ⟨rfl, g1⟩)
  obtain ⟨V, hV, k1, x1⟩ := six_new w1 (.int .u8 3) (.bool true) (.int .i64 sec) (.bool false) (.int .i64 0) (.bool false) 27
  rw [hV]
  obtain ⟨_, c0, c1, c2, c3, c4, c5⟩ := x1
  clear hV s0 s1
  have G := Lib.hid (g0.trans (g1.trans k1))
  go_wp2_with (go_at_call 5; refine (HK _ (HT.out.grew G.out)).out.mono ?_; rintro e w2 ⟨rfl, g2⟩)
  go_ret
  exact ⟨by first | rfl | simp | (simp [hs.1]; done), G.out.trans g2⟩
set_option maxRecDepth 1000000 in
set_option maxHeartbeats 4000000 in
theorem may_3l (k : Nat) (v : Value) (S : List Nat) (w : World) (hr : Row .u8 w v S) (hB : Bytes S) (ht : Tab w) (hl : S.length ≤ 1100) (sec : Int) (hs : 0 ≤ sec ∧ sec ≤ 9000000000000000000) (h59 : sec % 60 = 59) (hm : msgOf k S = some { kind := 3, utc := true, sec := sec, leap := true, cycle := 0, next := false }) :
    Calls Tryz.prog 4 #[.agg #[.int .u8 (k : Nat), v]] w fun e w' => e = .returned (.bool true) ∧ Grew w w' := by
  have HK := fun w ht => Lib.hid (law_known15 w ht)
  have HO := fun w' (g : Grew w w') => Lib.hid (prog_MsgOf k v S w' (hr.grew g) hB (by omega) (ht.grew g))
  rw [hm, show mgAns (some { kind := 3, utc := true, sec := sec, leap := true, cycle := 0, next := false }) = .tuple #[.agg #[.int .u8 3, .bool true, .int .i64 sec, .bool true, .int .i64 0, .bool false], .bool true] from rfl] at HO
  have HT := Lib.hid ht
  obtain ⟨A, c, rfl, _⟩ := hr
  clear ht hm
  have n1 : ¬ (1100 : Int) < S.length := by omega
  clear hl
  generalize S.length = n at *
  go_enter Tryz.func4, Tryz.ntmps4
  go_upto_region 1 with fail
  obtain ⟨W, hW, g0, T0⟩ := twoC_new w (.int .u8 (k : Nat)) (.slice A n c) 24
  rw [hW]
  clear hW
  obtain ⟨_, s0, s1, _, _⟩ := T0
  go_upto_region 4 with (go_at_call 6; refine (HO _ g0).out.mono ?_; rintro e w1 ⟨rfl, g1⟩)
  obtain ⟨V, hV, k1, x1⟩ := six_new w1 (.int .u8 3) (.bool true) (.int .i64 sec) (.bool true) (.int .i64 0) (.bool false) 27
  rw [hV]
  obtain ⟨_, c0, c1, c2, c3, c4, c5⟩ := x1
  clear hV s0 s1
  have G := Lib.hid (g0.trans (g1.trans k1))
  go_wp2_with (go_at_call 5; refine (HK _ (HT.out.grew G.out)).out.mono ?_; rintro e w2 ⟨rfl, g2⟩)
  go_ret
  exact ⟨by first | rfl | simp | (simp [hs.1]; done), G.out.trans g2⟩
set_option maxRecDepth 1000000 in
set_option maxHeartbeats 4000000 in
theorem may_5 (k : Nat) (v : Value) (S : List Nat) (w : World) (hr : Row .u8 w v S) (hB : Bytes S) (ht : Tab w) (hl : S.length ≤ 1100) (sec : Int) (hs : 0 ≤ sec ∧ sec ≤ 9000000000000000000) (hm : msgOf k S = some { kind := 5, utc := true, sec := sec, leap := false, cycle := 0, next := false }) :
    Calls Tryz.prog 4 #[.agg #[.int .u8 (k : Nat), v]] w fun e w' => e = .returned (.bool true) ∧ Grew w w' := by
  have HK := fun w ht => Lib.hid (law_known15 w ht)
  have HO := fun w' (g : Grew w w') => Lib.hid (prog_MsgOf k v S w' (hr.grew g) hB (by omega) (ht.grew g))
  rw [hm, show mgAns (some { kind := 5, utc := true, sec := sec, leap := false, cycle := 0, next := false }) = .tuple #[.agg #[.int .u8 5, .bool true, .int .i64 sec, .bool false, .int .i64 0, .bool false], .bool true] from rfl] at HO
  have HT := Lib.hid ht
  obtain ⟨A, c, rfl, _⟩ := hr
  clear ht hm
  have n1 : ¬ (1100 : Int) < S.length := by omega
  clear hl
  generalize S.length = n at *
  go_enter Tryz.func4, Tryz.ntmps4
  go_upto_region 1 with fail
  obtain ⟨W, hW, g0, T0⟩ := twoC_new w (.int .u8 (k : Nat)) (.slice A n c) 24
  rw [hW]
  clear hW
  obtain ⟨_, s0, s1, _, _⟩ := T0
  go_upto_region 4 with (go_at_call 6; refine (HO _ g0).out.mono ?_; rintro e w1 ⟨rfl, g1⟩)
  obtain ⟨V, hV, k1, x1⟩ := six_new w1 (.int .u8 5) (.bool true) (.int .i64 sec) (.bool false) (.int .i64 0) (.bool false) 27
  rw [hV]
  obtain ⟨_, c0, c1, c2, c3, c4, c5⟩ := x1
  clear hV s0 s1
  have G := Lib.hid (g0.trans (g1.trans k1))
  go_wp2_with (go_at_call 5; refine (HK _ (HT.out.grew G.out)).out.mono ?_; rintro e w2 ⟨rfl, g2⟩)
  go_ret
  exact ⟨by first | rfl | simp | (simp [hs.1]; done), G.out.trans g2⟩
set_option maxRecDepth 1000000 in
set_option maxHeartbeats 4000000 in
theorem may_5l (k : Nat) (v : Value) (S : List Nat) (w : World) (hr : Row .u8 w v S) (hB : Bytes S) (ht : Tab w) (hl : S.length ≤ 1100) (sec : Int) (hs : 0 ≤ sec ∧ sec ≤ 9000000000000000000) (h59 : sec % 60 = 59) (hm : msgOf k S = some { kind := 5, utc := true, sec := sec, leap := true, cycle := 0, next := false }) :
    Calls Tryz.prog 4 #[.agg #[.int .u8 (k : Nat), v]] w fun e w' => e = .returned (.bool true) ∧ Grew w w' := by
  have HK := fun w ht => Lib.hid (law_known15 w ht)
  have HO := fun w' (g : Grew w w') => Lib.hid (prog_MsgOf k v S w' (hr.grew g) hB (by omega) (ht.grew g))
  rw [hm, show mgAns (some { kind := 5, utc := true, sec := sec, leap := true, cycle := 0, next := false }) = .tuple #[.agg #[.int .u8 5, .bool true, .int .i64 sec, .bool true, .int .i64 0, .bool false], .bool true] from rfl] at HO
  have HT := Lib.hid ht
  obtain ⟨A, c, rfl, _⟩ := hr
  clear ht hm
  have n1 : ¬ (1100 : Int) < S.length := by omega
  clear hl
  generalize S.length = n at *
  go_enter Tryz.func4, Tryz.ntmps4
  go_upto_region 1 with fail
  obtain ⟨W, hW, g0, T0⟩ := twoC_new w (.int .u8 (k : Nat)) (.slice A n c) 24
  rw [hW]
  clear hW
  obtain ⟨_, s0, s1, _, _⟩ := T0
  go_upto_region 4 with (go_at_call 6; refine (HO _ g0).out.mono ?_; rintro e w1 ⟨rfl, g1⟩)
  obtain ⟨V, hV, k1, x1⟩ := six_new w1 (.int .u8 5) (.bool true) (.int .i64 sec) (.bool true) (.int .i64 0) (.bool false) 27
  rw [hV]
  obtain ⟨_, c0, c1, c2, c3, c4, c5⟩ := x1
  clear hV s0 s1
  have G := Lib.hid (g0.trans (g1.trans k1))
  go_wp2_with (go_at_call 5; refine (HK _ (HT.out.grew G.out)).out.mono ?_; rintro e w2 ⟨rfl, g2⟩)
  go_ret
  exact ⟨by first | rfl | simp | (simp [hs.1]; done), G.out.trans g2⟩
set_option maxRecDepth 1000000 in
set_option maxHeartbeats 4000000 in
theorem may_10 (k : Nat) (v : Value) (S : List Nat) (w : World) (hr : Row .u8 w v S) (hB : Bytes S) (ht : Tab w) (hl : S.length ≤ 1100) (sec : Int) (hs : 0 ≤ sec ∧ sec ≤ 9000000000000000000) (hm : msgOf k S = some { kind := 10, utc := true, sec := sec, leap := false, cycle := 0, next := false }) :
    Calls Tryz.prog 4 #[.agg #[.int .u8 (k : Nat), v]] w fun e w' => e = .returned (.bool true) ∧ Grew w w' := by
  have HK := fun w ht => Lib.hid (law_known15 w ht)
  have HO := fun w' (g : Grew w w') => Lib.hid (prog_MsgOf k v S w' (hr.grew g) hB (by omega) (ht.grew g))
  rw [hm, show mgAns (some { kind := 10, utc := true, sec := sec, leap := false, cycle := 0, next := false }) = .tuple #[.agg #[.int .u8 10, .bool true, .int .i64 sec, .bool false, .int .i64 0, .bool false], .bool true] from rfl] at HO
  have HT := Lib.hid ht
  obtain ⟨A, c, rfl, _⟩ := hr
  clear ht hm
  have n1 : ¬ (1100 : Int) < S.length := by omega
  clear hl
  generalize S.length = n at *
  go_enter Tryz.func4, Tryz.ntmps4
  go_upto_region 1 with fail
  obtain ⟨W, hW, g0, T0⟩ := twoC_new w (.int .u8 (k : Nat)) (.slice A n c) 24
  rw [hW]
  clear hW
  obtain ⟨_, s0, s1, _, _⟩ := T0
  go_upto_region 4 with (go_at_call 6; refine (HO _ g0).out.mono ?_; rintro e w1 ⟨rfl, g1⟩)
  obtain ⟨V, hV, k1, x1⟩ := six_new w1 (.int .u8 10) (.bool true) (.int .i64 sec) (.bool false) (.int .i64 0) (.bool false) 27
  rw [hV]
  obtain ⟨_, c0, c1, c2, c3, c4, c5⟩ := x1
  clear hV s0 s1
  have G := Lib.hid (g0.trans (g1.trans k1))
  go_wp2_with (go_at_call 5; refine (HK _ (HT.out.grew G.out)).out.mono ?_; rintro e w2 ⟨rfl, g2⟩)
  go_ret
  exact ⟨by first | rfl | simp | (simp [hs.1]; done), G.out.trans g2⟩
set_option maxRecDepth 1000000 in
set_option maxHeartbeats 4000000 in
theorem may_10l (k : Nat) (v : Value) (S : List Nat) (w : World) (hr : Row .u8 w v S) (hB : Bytes S) (ht : Tab w) (hl : S.length ≤ 1100) (sec : Int) (hs : 0 ≤ sec ∧ sec ≤ 9000000000000000000) (h59 : sec % 60 = 59) (hm : msgOf k S = some { kind := 10, utc := true, sec := sec, leap := true, cycle := 0, next := false }) :
    Calls Tryz.prog 4 #[.agg #[.int .u8 (k : Nat), v]] w fun e w' => e = .returned (.bool true) ∧ Grew w w' := by
  have HK := fun w ht => Lib.hid (law_known15 w ht)
  have HO := fun w' (g : Grew w w') => Lib.hid (prog_MsgOf k v S w' (hr.grew g) hB (by omega) (ht.grew g))
  rw [hm, show mgAns (some { kind := 10, utc := true, sec := sec, leap := true, cycle := 0, next := false }) = .tuple #[.agg #[.int .u8 10, .bool true, .int .i64 sec, .bool true, .int .i64 0, .bool false], .bool true] from rfl] at HO
  have HT := Lib.hid ht
  obtain ⟨A, c, rfl, _⟩ := hr
  clear ht hm
  have n1 : ¬ (1100 : Int) < S.length := by omega
  clear hl
  generalize S.length = n at *
  go_enter Tryz.func4, Tryz.ntmps4
  go_upto_region 1 with fail
  obtain ⟨W, hW, g0, T0⟩ := twoC_new w (.int .u8 (k : Nat)) (.slice A n c) 24
  rw [hW]
  clear hW
  obtain ⟨_, s0, s1, _, _⟩ := T0
  go_upto_region 4 with (go_at_call 6; refine (HO _ g0).out.mono ?_; rintro e w1 ⟨rfl, g1⟩)
  obtain ⟨V, hV, k1, x1⟩ := six_new w1 (.int .u8 10) (.bool true) (.int .i64 sec) (.bool true) (.int .i64 0) (.bool false) 27
  rw [hV]
  obtain ⟨_, c0, c1, c2, c3, c4, c5⟩ := x1
  clear hV s0 s1
  have G := Lib.hid (g0.trans (g1.trans k1))
  go_wp2_with (go_at_call 5; refine (HK _ (HT.out.grew G.out)).out.mono ?_; rintro e w2 ⟨rfl, g2⟩)
  go_ret
  exact ⟨by first | rfl | simp | (simp [hs.1]; done), G.out.trans g2⟩
set_option maxRecDepth 1000000 in
set_option maxHeartbeats 4000000 in
theorem may_11 (k : Nat) (v : Value) (S : List Nat) (w : World) (hr : Row .u8 w v S) (hB : Bytes S) (ht : Tab w) (hl : S.length ≤ 1100) (sec : Int) (hs : 0 ≤ sec ∧ sec ≤ 9000000000000000000) (hm : msgOf k S = some { kind := 11, utc := true, sec := sec, leap := false, cycle := 0, next := false }) :
    Calls Tryz.prog 4 #[.agg #[.int .u8 (k : Nat), v]] w fun e w' => e = .returned (.bool true) ∧ Grew w w' := by
  have HK := fun w ht => Lib.hid (law_known15 w ht)
  have HO := fun w' (g : Grew w w') => Lib.hid (prog_MsgOf k v S w' (hr.grew g) hB (by omega) (ht.grew g))
  rw [hm, show mgAns (some { kind := 11, utc := true, sec := sec, leap := false, cycle := 0, next := false }) = .tuple #[.agg #[.int .u8 11, .bool true, .int .i64 sec, .bool false, .int .i64 0, .bool false], .bool true] from rfl] at HO
  have HT := Lib.hid ht
  obtain ⟨A, c, rfl, _⟩ := hr
  clear ht hm
  have n1 : ¬ (1100 : Int) < S.length := by omega
  clear hl
  generalize S.length = n at *
  go_enter Tryz.func4, Tryz.ntmps4
  go_upto_region 1 with fail
  obtain ⟨W, hW, g0, T0⟩ := twoC_new w (.int .u8 (k : Nat)) (.slice A n c) 24
  rw [hW]
  clear hW
  obtain ⟨_, s0, s1, _, _⟩ := T0
  go_upto_region 4 with (go_at_call 6; refine (HO _ g0).out.mono ?_; rintro e w1 ⟨rfl, g1⟩)
  obtain ⟨V, hV, k1, x1⟩ := six_new w1 (.int .u8 11) (.bool true) (.int .i64 sec) (.bool false) (.int .i64 0) (.bool false) 27
  rw [hV]
  obtain ⟨_, c0, c1, c2, c3, c4, c5⟩ := x1
  clear hV s0 s1
  have G := Lib.hid (g0.trans (g1.trans k1))
  go_wp2_with (go_at_call 5; refine (HK _ (HT.out.grew G.out)).out.mono ?_; rintro e w2 ⟨rfl, g2⟩)
  go_ret
  exact ⟨by first | rfl | simp | (simp [hs.1]; done), G.out.trans g2⟩
set_option maxRecDepth 1000000 in
set_option maxHeartbeats 4000000 in
theorem may_11l (k : Nat) (v : Value) (S : List Nat) (w : World) (hr : Row .u8 w v S) (hB : Bytes S) (ht : Tab w) (hl : S.length ≤ 1100) (sec : Int) (hs : 0 ≤ sec ∧ sec ≤ 9000000000000000000) (h59 : sec % 60 = 59) (hm : msgOf k S = some { kind := 11, utc := true, sec := sec, leap := true, cycle := 0, next := false }) :
    Calls Tryz.prog 4 #[.agg #[.int .u8 (k : Nat), v]] w fun e w' => e = .returned (.bool true) ∧ Grew w w' := by
  have HK := fun w ht => Lib.hid (law_known15 w ht)
  have HO := fun w' (g : Grew w w') => Lib.hid (prog_MsgOf k v S w' (hr.grew g) hB (by omega) (ht.grew g))
  rw [hm, show mgAns (some { kind := 11, utc := true, sec := sec, leap := true, cycle := 0, next := false }) = .tuple #[.agg #[.int .u8 11, .bool true, .int .i64 sec, .bool true, .int .i64 0, .bool false], .bool true] from rfl] at HO
  have HT := Lib.hid ht
  obtain ⟨A, c, rfl, _⟩ := hr
  clear ht hm
  have n1 : ¬ (1100 : Int) < S.length := by omega
  clear hl
  generalize S.length = n at *
  go_enter Tryz.func4, Tryz.ntmps4
  go_upto_region 1 with fail
  obtain ⟨W, hW, g0, T0⟩ := twoC_new w (.int .u8 (k : Nat)) (.slice A n c) 24
  rw [hW]
  clear hW
  obtain ⟨_, s0, s1, _, _⟩ := T0
  go_upto_region 4 with (go_at_call 6; refine (HO _ g0).out.mono ?_; rintro e w1 ⟨rfl, g1⟩)
  obtain ⟨V, hV, k1, x1⟩ := six_new w1 (.int .u8 11) (.bool true) (.int .i64 sec) (.bool true) (.int .i64 0) (.bool false) 27
  rw [hV]
  obtain ⟨_, c0, c1, c2, c3, c4, c5⟩ := x1
  clear hV s0 s1
  have G := Lib.hid (g0.trans (g1.trans k1))
  go_wp2_with (go_at_call 5; refine (HK _ (HT.out.grew G.out)).out.mono ?_; rintro e w2 ⟨rfl, g2⟩)
  go_ret
  exact ⟨by first | rfl | simp | (simp [hs.1]; done), G.out.trans g2⟩
/-- The law, whatever frame. -/
theorem law_MessageMay (k : Nat) (v : Value) (S : List Nat) (w : World) (hr : Row .u8 w v S) (hB : Bytes S) (ht : Tab w) :
    Calls Tryz.prog 4 #[.agg #[.int .u8 (k : Nat), v]] w fun e w' => e = .returned (.bool true) ∧ Grew w w' := by
  by_cases hl : 1100 < S.length
  · exact may_long k v S w hr ht hl
  · have hl : S.length ≤ 1100 := by omega
    cases hm : msgOf k S with
    | none => exact may_none k v S w hr hB ht hl hm
    | some m =>
      have h := may_all hB hm
      obtain ⟨kd, u, sec, l, cy, nx⟩ := m
      unfold MayBe UtcLike GpsLike at h
      simp only at h
      rcases h with ⟨rfl, rfl, rfl, rfl, h1, h2, h3⟩ | ⟨rfl, rfl, rfl, rfl, h1, h2, h3⟩ | ⟨rfl, rfl, rfl, rfl, h1, h2, h3⟩ | ⟨rfl, rfl, rfl, rfl, h1, h2, rfl⟩ | ⟨rfl, rfl, rfl, rfl, h1, h2, h3⟩ | ⟨rfl, rfl, rfl, rfl, h1, h2, rfl⟩ | ⟨rfl, rfl, rfl, rfl, h1, h2, rfl⟩ | ⟨rfl, rfl, rfl, rfl, h1, h2, rfl⟩ | ⟨rfl, rfl, rfl, rfl, h1, h2, rfl⟩ | ⟨rfl, rfl, rfl, rfl, h1, h2, h3⟩ | ⟨rfl, rfl, rfl, rfl, h1, h2, h3⟩
      · cases l with
        | false => exact may_1 k v S w hr hB ht hl sec ⟨h1, h2⟩ hm
        | true => exact may_1l k v S w hr hB ht hl sec ⟨h1, h2⟩ (h3 rfl) hm
      · cases l with
        | false => exact may_2 k v S w hr hB ht hl sec ⟨h1, h2⟩ hm
        | true => exact may_2l k v S w hr hB ht hl sec ⟨h1, h2⟩ (h3 rfl) hm
      · cases l with
        | false => exact may_3 k v S w hr hB ht hl sec ⟨h1, h2⟩ hm
        | true => exact may_3l k v S w hr hB ht hl sec ⟨h1, h2⟩ (h3 rfl) hm
      · exact may_4 k v S w hr hB ht hl sec ⟨h1, h2⟩ hm
      · cases l with
        | false => exact may_5 k v S w hr hB ht hl sec ⟨h1, h2⟩ hm
        | true => exact may_5l k v S w hr hB ht hl sec ⟨h1, h2⟩ (h3 rfl) hm
      · exact may_6 k v S w hr hB ht hl sec ⟨h1, h2⟩ hm
      · exact may_7 k v S w hr hB ht hl sec ⟨h1, h2⟩ hm
      · exact may_8 k v S w hr hB ht hl sec ⟨h1, h2⟩ hm
      · exact may_9 k v S w hr hB ht hl sec ⟨h1, h2⟩ hm
      · cases l with
        | false => exact may_10 k v S w hr hB ht hl sec ⟨h1, h2⟩ hm
        | true => exact may_10l k v S w hr hB ht hl sec ⟨h1, h2⟩ (h3 rfl) hm
      · cases l with
        | false => exact may_11 k v S w hr hB ht hl sec ⟨h1, h2⟩ hm
        | true => exact may_11l k v S w hr hB ht hl sec ⟨h1, h2⟩ (h3 rfl) hm
-- SOME]
end Go.Proofs.YtnhigfkhdmkoeaaGreatDoor

namespace Go.Proofs.YtnhigfkhdmkoeaaGreatDoor
open Go.RowKit Go.ChangeShapes
set_option linter.unusedVariables false

theorem gTab : Tryz.prog.globalNamed "remontoire/civil.lengths" = some 0 := by kernel_rfl
theorem gTabType : (Tryz.prog.globals[0]?).map (·.type) = some 170 := by kernel_rfl
theorem cellsTab : Tryz.prog.cellsOf 170 = 12 := by kernel_rfl
theorem cellsInt : Tryz.prog.cellsOf 3 = 1 := by kernel_rfl
theorem tab_of {W : World} {rest : List (String × DataW Unit)} (h : laidMet Tryz.prog (("remontoire/civil.lengths", Rows.laid_remontoire_civil_lengths) :: rest) W) : Tab W := by
  have h1 : Lib.TabIs Tryz.prog W "remontoire/civil.lengths" .i64 [31, 28, 31, 30, 31, 30, 31, 31, 30, 31, 30, 31] :=
    Lib.tabIs_of_head (zs := [31, 28, 31, 30, 31, 30, 31, 31, 30, 31, 30, 31]) (rest := rest) gTab gTabType Tryz.underlying170 Tryz.underlying3 cellsInt cellsTab h
  have h2 : ∀ i : Nat, i < 12 → W.cell? ⟨0, i, none⟩ = some (.int .i64 (lenTab (i + 1))) := fun i hi => by
    match i, hi with
    | 0, _ => exact h1.cell gTab 0 (by decide)
    | 1, _ => exact h1.cell gTab 1 (by decide)
    | 2, _ => exact h1.cell gTab 2 (by decide)
    | 3, _ => exact h1.cell gTab 3 (by decide)
    | 4, _ => exact h1.cell gTab 4 (by decide)
    | 5, _ => exact h1.cell gTab 5 (by decide)
    | 6, _ => exact h1.cell gTab 6 (by decide)
    | 7, _ => exact h1.cell gTab 7 (by decide)
    | 8, _ => exact h1.cell gTab 8 (by decide)
    | 9, _ => exact h1.cell gTab 9 (by decide)
    | 10, _ => exact h1.cell gTab 10 (by decide)
    | 11, _ => exact h1.cell gTab 11 (by decide)
  exact ⟨World.block_lt_of_cell? W _ (h2 0 (by decide)), h2⟩
end Go.Proofs.YtnhigfkhdmkoeaaGreatDoor

namespace Go.Proofs.YtnhigfkhdmkoeaaGreatDoor
open Go.RowKit Go.ChangeShapes Go.WideShapes Go.Deep
set_option linter.unusedVariables false

theorem cellsFrame : Tryz.prog.cellsOf 24 = 2 := by kernel_rfl
theorem cellsFrameB : Tryz.prog.cellsOf 22 = 1 := by kernel_rfl
theorem cellsFrameU : Tryz.prog.cellsOf 5 = 1 := by kernel_rfl
theorem bytesFrameU : Tryz.prog.bytesOf 5 = 1 := by kernel_rfl

theorem list2 {α : Type} {l : List α} (h : l.length = 2) : ∃ a b, l = [a, b] := by
  match l, h with
  | [a, b], _ => exact ⟨a, b, rfl⟩

theorem arr2 {cs : Array Value} (h : cs.size = 2) : ∃ x y, cs = #[x, y] := by
  obtain ⟨l⟩ := cs
  obtain ⟨a, b, rfl⟩ := list2 (l := l) h
  exact ⟨a, b, rfl⟩

set_option maxHeartbeats 1000000 in
theorem open_frame {H : Type} {enc : TypeId × Value → H} {W : World} {fuel : Nat} {c0 c1 : Value} {d : DataW H} {p : List MemPlace}
    (hf : DataW.trod enc Tryz.prog W 0 (fun _ => true) true fuel 24 [c0, c1] = some (d, p)) (hw : ∀ n ∈ d.weights Tryz.prog 24, n ≤ reachBytes) :
    ∃ (k : Nat) (A : Option Addr) (c : Nat) (ns : List Nat), c0 = .int .u8 (k : Nat) ∧ c1 = .slice A ns.length c ∧ Row .u8 W (.slice A ns.length c) ns ∧ Bytes ns ∧ k < 256 ∧ ns.length ≤ 140737488355328 := by
  obtain ⟨xs, n', _, hx', _, hlen', hg⟩ := DataW.trod_struct Tryz.underlying24 hf
  obtain ⟨y0, y1, rfl⟩ := list2 hlen'
  have g0 := hg 0 _ rfl
  have g1 := hg 1 _ rfl
  simp only [List.getElem_toArray, List.getElem_cons_zero, List.getElem_cons_succ, cellsFrameU, cellsFrameB, List.drop_zero, List.drop_succ_cons, List.take_succ_cons, List.take_zero, List.getElem?_cons_zero, List.getElem?_cons_succ] at g0 g1
  obtain ⟨k, e0, r0, w0⟩ := DataW.trod_int Tryz.underlying5 g0
  simp only [List.cons.injEq, and_true] at e0
  subst e0 r0
  simp only [Prod.mk.injEq] at hx'
  have hk := bounds_u8 w0
  obtain ⟨kn, rfl⟩ : ∃ kn : Nat, k = kn := ⟨k.toNat, by omega⟩
  rcases open_ints Tryz.underlying22 Tryz.underlying5 cellsFrameU g1 with ⟨hcs2, hy⟩ | ⟨a', len', cap', zs, hcs2, hb2, hl2, hm2, hz2, hy, hcell, hwz⟩
  · simp only [List.cons.injEq, and_true] at hcs2
    subst hcs2
    exact ⟨kn, none, 0, [], rfl, rfl, Row.nil _ _, Bytes.of_mem (by simp), by omega, by simp⟩
  · simp only [List.cons.injEq, and_true] at hcs2
    subst hcs2
    simp only [if_true] at hz2
    have hR := RowIn.of hl2 hm2 hz2 hcell hwz (fun n h => (bounds_u8 h).1)
    have hll : ((zs.take len').map Int.toNat).length = len' := by simp; omega
    have hreach : cap' ≤ reachBytes := by
      refine hw _ ?_
      rw [hx'.1, DataW.weights, Tryz.underlying24]
      subst hy
      simp [DataW.weightsEach, DataW.weights, Tryz.underlying22, bytesFrameU, lits]
      omega
    refine ⟨kn, some a', cap', (zs.take len').map Int.toNat, rfl, ?_, ?_, ?_, by omega, ?_⟩
    · rw [hll]
    · rw [hll]; exact hR.1
    · exact Bytes.of_mem fun x hx => by have := bounds_u8 (hR.2.1 x hx); omega
    · rw [hll]; unfold reachBytes at hreach; omega

end Go.Proofs.YtnhigfkhdmkoeaaGreatDoor


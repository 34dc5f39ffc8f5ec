/-
  The laws of fields: what any text is.
-/
import Derived.Test.YtbgepjhnnlippaaFldX
import Derived.Test.YtbgepjhnnlippaaFldW
namespace Go.Proofs.Ytbgepjhnnlippaa
open Go.RowKit
set_option linter.unusedVariables false

set_option maxRecDepth 100000 in
set_option maxHeartbeats 4000000 in
theorem law_reads (s o : ByteArray) (least most places : Int) (w : World) (h1 : -9223372036854775808 ≤ least ∧ least ≤ 9223372036854775807) (h2 : -9223372036854775808 ≤ most ∧ most ≤ 9223372036854775807) (h3 : -9223372036854775808 ≤ places ∧ places ≤ 9223372036854775807) :
    Calls Try.prog 3 #[.string s, .int .i64 least, .int .i64 most, .int .i64 places, .string o] w fun e w' => e = .returned (.bool true) ∧ Grew w w' := by
  have HK := fun w => Lib.hid (known_true w)
  have G := Lib.hid (Grew.refl w)
  by_cases hs : 100 < s.size
  · have c1 : (100 : Int) < s.size := by omega
    go_enter Try.func3, Try.ntmps3
    go_wp2_with (first | (go_at_call 5; refine (HK _).out.mono ?_; rintro e w1 ⟨rfl, g1⟩))
    go_ret
    exact ⟨rfl, g1⟩
  · have c1 : ¬ (100 : Int) < s.size := by omega
    by_cases ho : 100 < o.size
    · have c2 : (100 : Int) < o.size := by omega
      go_enter Try.func3, Try.ntmps3
      go_wp2_with (first | (go_at_call 5; refine (HK _).out.mono ?_; rintro e w1 ⟨rfl, g1⟩))
      go_ret
      exact ⟨rfl, g1⟩
    · have c2 : ¬ (100 : Int) < o.size := by omega
      have PI := fun w => Lib.hid (fld_Int s least most w (by omega) h1 h2)
      have RI := fun w => Lib.hid (ref09_Int s least most w (by omega) h1 h2)
      have PF := fun w => Lib.hid (fld_Fixed s places w (by omega) h3)
      have RF := fun w => Lib.hid (ref09_Fixed s places w (by omega) h3)
      have PC := fun w => fld_Clock s w (by omega)
      have RC := fun w => ref09_Clock s w (by omega)
      have PH := fun w => Lib.hid (fld_Hex s w (by omega))
      have RH := fun w => Lib.hid (ref09_Hex s w (by omega))
      have PD := fun w => fld_Date s w (by omega)
      have RD := fun w => ref09_Date s w (by omega)
      have PO := fun w => Lib.hid (fld_One s o w (by omega) (by omega))
      have RO := fun w => Lib.hid (ref09_One s o w (by omega) (by omega))
      unfold dayVal at PC RC
      unfold dateVal at PD RD
      generalize (intAns (nat s) least most).1 = i1 at *
      generalize (intAns (nat s) least most).2 = i2 at *
      generalize (fixedOf (nat s) places).1 = f1 at *
      generalize (fixedOf (nat s) places).2 = f2 at *
      generalize (hexOf (nat s)).1 = x1 at *
      generalize (hexOf (nat s)).2 = x2 at *
      generalize (oneOf (nat s) (nat o)).1 = o1 at *
      generalize (oneOf (nat s) (nat o)).2 = o2 at *
      generalize clockOf (nat s) = c at *
      obtain ⟨⟨k1, k2, k3, k4⟩, k5⟩ := c
      generalize dateOf (nat s) = d at *
      obtain ⟨⟨d1, d2, d3⟩, d4⟩ := d
      replace PC := fun w => Lib.hid (PC w)
      replace RC := fun w => Lib.hid (RC w)
      replace PD := fun w => Lib.hid (PD w)
      replace RD := fun w => Lib.hid (RD w)
      clear hs ho
      go_enter Try.func3, Try.ntmps3
      go_upto_region 10 with (first | (go_at_call 6; refine (PI _).out.mono ?_; rintro e w1 ⟨rfl, g1⟩; replace G := Lib.hid (G.out.trans g1); clear g1) | (go_at_call 7; refine (RI _).out.mono ?_; rintro e w1 ⟨rfl, rfl⟩) | (go_at_call 8; refine (PF _).out.mono ?_; rintro e w1 ⟨rfl, g1⟩; replace G := Lib.hid (G.out.trans g1); clear g1) | (go_at_call 9; refine (RF _).out.mono ?_; rintro e w1 ⟨rfl, rfl⟩) | (go_at_call 10; refine (PC _).out.mono ?_; rintro e w2 ⟨rfl, g1⟩; replace G := Lib.hid (G.out.trans g1); clear g1))
      obtain ⟨W, b, hW, hb, gW, hD⟩ := newFour w2 (.int .i64 (k1 : Nat)) (.int .i64 (k2 : Nat)) (.int .i64 (k3 : Nat)) (.bool k4) 28
      rw [hW, hb]
      replace G := Lib.hid (G.out.trans gW)
      have HD := Lib.hid hD
      clear hW hb gW hD PI RI PF RF PC
      go_upto_region 11 with (first | (go_at_call 11; refine (RC _).out.mono ?_; rintro e w3 ⟨rfl, g1⟩; replace G := Lib.hid (G.out.trans g1); replace HD := Lib.hid (HD.out.grew g1); clear g1))
      obtain ⟨W2, b2, hW2, hb2, gW2, hD2⟩ := newFour w3 (.int .i64 (k1 : Nat)) (.int .i64 (k2 : Nat)) (.int .i64 (k3 : Nat)) (.bool k4) 28
      rw [hW2, hb2]
      replace G := Lib.hid (G.out.trans gW2)
      replace HD := Lib.hid (HD.out.grew gW2)
      have HE := Lib.hid hD2
      clear hW2 hb2 gW2 hD2 RC
      go_upto_region 13 with (first | (go_at_call 12; refine (PH _).out.mono ?_; rintro e w4 ⟨rfl, g1⟩; replace G := Lib.hid (G.out.trans g1); replace HD := Lib.hid (HD.out.grew g1); replace HE := Lib.hid (HE.out.grew g1); clear g1) | (go_at_call 13; refine (RH _).out.mono ?_; rintro e w5 ⟨rfl, rfl⟩))
      obtain ⟨c, c0, c1, c2, c3, c4, c5, c6, c7⟩ := HD.out
      obtain ⟨a, a0, a1, a2, a3, a4, a5, a6, a7⟩ := HE.out
      clear HD HE PH RH
      go_wp2_with (first | (go_at_call 14; refine (PD _).out.mono ?_; rintro e w6 ⟨rfl, g1⟩; replace G := Lib.hid (G.out.trans g1); clear g1) | (go_at_call 15; refine (RD _).out.mono ?_; rintro e w6 ⟨rfl, g1⟩; replace G := Lib.hid (G.out.trans g1); clear g1) | (go_at_call 16; refine (PO _).out.mono ?_; rintro e w6 ⟨rfl, g1⟩; replace G := Lib.hid (G.out.trans g1); clear g1) | (go_at_call 17; refine (RO _).out.mono ?_; rintro e w6 ⟨rfl, rfl⟩) | (go_at_call 5; refine (HK _).out.mono ?_; rintro e w6 ⟨rfl, g1⟩; replace G := Lib.hid (G.out.trans g1); clear g1))
      go_ret
      exact ⟨rfl, G.out⟩
end Go.Proofs.Ytbgepjhnnlippaa

/-
  The law of sentences that are written: NmeaoutWrites' walk.
-/
import Derived.Test.YtlcmjedbdopglaaDoorNolA
import Derived.Test.YtlcmjedbdopglaaDoorNopT
namespace Go.Proofs.YtlcmjedbdopglaaDoor
open Go.RowKit
set_option linter.unusedVariables false

/-- A second's sentence: the program's and the document's tell the same. -/
theorem clock_both (sec : Int) (valid : Bool) (hv : -9223372036854775808 ≤ sec ∧ sec ≤ 9223372036854775807) : ∃ er L, (∀ w, Tabs w → Calls Tryd.prog 11 #[.int .i64 sec, .bool valid] w (SaidT er L w)) ∧ (∀ w, Calls Tryd.prog 12 #[.int .i64 sec, .bool valid] w (SaidT er L w)) := by
  by_cases hb : sec < 0 ∨ 9467107200 ≤ sec
  · exact ⟨9, [], fun w ht => prog_Clock_bad sec valid w hv hb ht ⟨#[]⟩, fun w => ref11_Clock_bad sec valid w hv hb ⟨#[]⟩⟩
  obtain ⟨Y, m, D, H, I, S, h⟩ := is_at sec (by omega)
  by_cases hY : Y < 1980
  · exact ⟨9, [], fun w ht => prog_Clock_old sec valid w Y m D H I S h hY ht ⟨#[]⟩, fun w => ref11_Clock_old sec valid w Y m D H I S h hY ⟨#[]⟩⟩
  cases valid
  · exact ⟨_, _, fun w ht => prog_Clock_no sec w Y m D H I S h (by omega) ht, fun w => ref11_Clock_no sec w Y m D H I S h (by omega)⟩
  · exact ⟨_, _, fun w ht => prog_Clock_ok sec w Y m D H I S h (by omega) ht, fun w => ref11_Clock_ok sec w Y m D H I S h (by omega)⟩
theorem cmd_said {P : Program} {f g : FuncId} {args : Array Value} {er : Nat} {s : ByteArray} {T : World → Prop} (h1 : ∀ w, T w → Calls P f args w (CmdT er s w)) (h2 : ∀ w, Calls P g args w (CmdT er s w)) :
    ∃ e L, (∀ w, T w → Calls P f args w (SaidT e L w)) ∧ (∀ w, Calls P g args w (SaidT e L w)) := ⟨_, _, h1, h2⟩
set_option maxRecDepth 1000000 in
set_option maxHeartbeats 4000000 in
theorem law_writes (s : ByteArray) (k : Nat) (every sec : Int) (valid : Bool) (w : World) (hk : k < 256) (hv : -9223372036854775808 ≤ every ∧ every ≤ 9223372036854775807) (hs : -9223372036854775808 ≤ sec ∧ sec ≤ 9223372036854775807) (ht : Tabs w) :
    Calls Tryd.prog 3 #[.string s, .int .u8 (k : Nat), .int .i64 every, .int .i64 sec, .bool valid] w fun e w' => e = .returned (.bool true) ∧ Grew w w' := by
  have HK := fun w ht => Lib.hid (known_11 w ht)
  have HT := Lib.hid ht
  clear ht
  by_cases h2 : 200 < s.size
  · have c2 : (200 : Int) < s.size := by omega
    go_enter Tryd.func3, Tryd.ntmps3
    go_wp2_with (go_at_call 4; refine (HK _ HT.out).out.mono ?_; rintro e w1 ⟨rfl, g1⟩)
    go_ret
    exact ⟨rfl, g1⟩
  have c2 : ¬ (200 : Int) < s.size := by omega
  have S1 := fun w => prog_Sentence s w (by omega)
  have S2 := fun w => ref11_Sentence s w (by omega)
  obtain ⟨e1, L1, R1, R2⟩ := cmd_said (T := Tabs) (fun w ht => prog_Rate k every w hk hv ht) (fun w => ref11_Rate k every w hk hv)
  obtain ⟨e2, L2, A1, A2⟩ := cmd_said (T := Tabs) (fun w ht => prog_Ask k every w hk hv ht) (fun w => ref11_Ask k every w hk hv)
  obtain ⟨e3, L3, C1, C2⟩ := clock_both sec valid hs
  have HB0 := fun (h : sentErr s ≠ 0) v w hr => body_no11 v w (sent_no s h ▸ hr)
  have HB1 := fun (h : sentErr s = 0) v w hr => body_ok11 v s w hr (by omega) h
  obtain ⟨e0, he0⟩ : ∃ e0, sentErr s = e0 := ⟨_, rfl⟩
  obtain ⟨L0, hL0⟩ : ∃ L0, sentRow s = L0 := ⟨_, rfl⟩
  rw [he0, hL0] at S1 S2 HB0 HB1
  replace S1 := fun w => Lib.hid (S1 w)
  replace S2 := fun w => Lib.hid (S2 w)
  replace R1 := fun w ht => Lib.hid (R1 w ht)
  replace R2 := fun w => Lib.hid (R2 w)
  replace A1 := fun w ht => Lib.hid (A1 w ht)
  replace A2 := fun w => Lib.hid (A2 w)
  replace C1 := fun w ht => Lib.hid (C1 w ht)
  replace C2 := fun w => Lib.hid (C2 w)
  replace HB0 := Lib.hid HB0
  replace HB1 := Lib.hid HB1
  clear he0 hL0 h2
  go_enter Tryd.func3, Tryd.ntmps3
  go_wp2_with fail
  refine (S1 _).out.mono ?_
  rintro e w1 ⟨v1, rfl, r1, g1⟩
  replace r1 := Lib.hid r1
  go_wp2_with fail
  refine (S2 _).out.mono ?_
  rintro e w2 ⟨v2, rfl, r2, g2⟩
  replace r2 := Lib.hid r2
  have G2 := Lib.hid (g1.trans g2)
  go_wp2_with fail
  refine (R1 _ (HT.out.grew G2.out)).out.mono ?_
  rintro e w3 ⟨v3, rfl, r3, g3⟩
  replace r3 := Lib.hid r3
  have G3 := Lib.hid (G2.out.trans g3)
  go_wp2_with fail
  refine (R2 _).out.mono ?_
  rintro e w4 ⟨v4, rfl, r4, g4⟩
  replace r4 := Lib.hid r4
  have G4 := Lib.hid (G3.out.trans g4)
  go_wp2_with fail
  refine (A1 _ (HT.out.grew G4.out)).out.mono ?_
  rintro e w5 ⟨v5, rfl, r5, g5⟩
  replace r5 := Lib.hid r5
  have G5 := Lib.hid (G4.out.trans g5)
  go_wp2_with fail
  refine (A2 _).out.mono ?_
  rintro e w6 ⟨v6, rfl, r6, g6⟩
  replace r6 := Lib.hid r6
  have G6 := Lib.hid (G5.out.trans g6)
  go_wp2_with fail
  refine (C1 _ (HT.out.grew G6.out)).out.mono ?_
  rintro e w7 ⟨v7, rfl, r7, g7⟩
  replace r7 := Lib.hid r7
  have G7 := Lib.hid (G6.out.trans g7)
  go_wp2_with fail
  refine (C2 _).out.mono ?_
  rintro e w8 ⟨v8, rfl, r8, g8⟩
  replace r8 := Lib.hid r8
  have G8 := Lib.hid (G7.out.trans g8)
  have F1 := Lib.hid (r1.out.grew (g2.trans (g3.trans (g4.trans (g5.trans (g6.trans (g7.trans g8)))))))
  have F2 := Lib.hid (r2.out.grew (g3.trans (g4.trans (g5.trans (g6.trans (g7.trans g8))))))
  have F3 := Lib.hid (r3.out.grew (g4.trans (g5.trans (g6.trans (g7.trans g8)))))
  have F4 := Lib.hid (r4.out.grew (g5.trans (g6.trans (g7.trans g8))))
  have F5 := Lib.hid (r5.out.grew (g6.trans (g7.trans g8)))
  have F6 := Lib.hid (r6.out.grew (g7.trans g8))
  have F7 := Lib.hid (r7.out.grew g8)
  have q1 := Row.string _ F1.out 23 5 Tryd.underlying23 Tryd.underlying5 9 Tryd.underlying9
  have q2 := Row.string _ F2.out 23 5 Tryd.underlying23 Tryd.underlying5 9 Tryd.underlying9
  have q3 := Row.string _ F3.out 23 5 Tryd.underlying23 Tryd.underlying5 9 Tryd.underlying9
  have q4 := Row.string _ F4.out 23 5 Tryd.underlying23 Tryd.underlying5 9 Tryd.underlying9
  have q5 := Row.string _ F5.out 23 5 Tryd.underlying23 Tryd.underlying5 9 Tryd.underlying9
  have q6 := Row.string _ F6.out 23 5 Tryd.underlying23 Tryd.underlying5 9 Tryd.underlying9
  have q7 := Row.string _ F7.out 23 5 Tryd.underlying23 Tryd.underlying5 9 Tryd.underlying9
  have q8 := Row.string _ r8.out 23 5 Tryd.underlying23 Tryd.underlying5 9 Tryd.underlying9
  clear S1 S2 R1 R2 A1 A2 C1 C2 r1 r2 r3 r4 r5 r6 r7 g1 g2 g3 g4 g5 g6 g7 g8 G2 G3 G4 G5 G6 G7
  generalize strOf L0 = Z0 at *
  generalize strOf L1 = Z1 at *
  generalize strOf L2 = Z2 at *
  generalize strOf L3 = Z3 at *
  by_cases h0 : e0 = 0
  · subst h0
    have B := fun v w hr => Lib.hid (HB1.out rfl v w hr)
    go_wp2_with fail
    refine (B _ _ F1.out).out.mono ?_
    rintro e w9 ⟨rfl, g9⟩
    have G9 := Lib.hid (G8.out.trans g9)
    clear g9 q1 q2 q3 q4 q5 q6 q7 q8
    go_wp2_with (go_at_call 4; refine (HK _ (HT.out.grew (by first | exact G9.out | exact G9.out.drew))).out.mono ?_; rintro e w10 ⟨rfl, g10⟩)
    go_ret
    exact ⟨rfl, by first | exact G9.out.trans g10 | exact G9.out.drew.trans g10⟩
  · have B := fun v w hr => Lib.hid (HB0.out h0 v w hr)
    have n0 : ¬ (e0 : Int) = 0 := by omega
    go_wp2_with fail
    refine (B _ _ F1.out).out.mono ?_
    rintro e w9 ⟨rfl, g9⟩
    have G9 := Lib.hid (G8.out.trans g9)
    clear g9 q1 q2 q3 q4 q5 q6 q7 q8
    go_wp2_with (go_at_call 4; refine (HK _ (HT.out.grew (by first | exact G9.out | exact G9.out.drew))).out.mono ?_; rintro e w10 ⟨rfl, g10⟩)
    go_ret
    exact ⟨rfl, by first | exact G9.out.trans g10 | exact G9.out.drew.trans g10⟩
end Go.Proofs.YtlcmjedbdopglaaDoor

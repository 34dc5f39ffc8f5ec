/-
  The law of a second's sentence: NmeaoutClock's walk.
-/
import Derived.Test.YtlcmjedbdopglaaGreatDoorNolA
import Derived.Test.YtlcmjedbdopglaaGreatDoorNolM
import Derived.Test.YtlcmjedbdopglaaGreatDoorNopC
import Derived.Test.YtlcmjedbdopglaaGreatDoorNmpU
namespace Go.Proofs.YtlcmjedbdopglaaGreatDoor
open Go.RowKit
set_option linter.unusedVariables false

theorem row_nil_form {w : World} {k : IntKind} {v : Value} (h : Row k w v []) : ∃ A c, v = .slice A 0 c := by
  obtain ⟨A, c, rfl, _⟩ := h
  exact ⟨A, c, rfl⟩
/-- A variable that holds a struct's cells. -/
theorem fix_cells (w : World) (b : Nat) (F : Told) (h : w.heap[b]? = some (.cells (Told.cells F) 36)) :
    w.cell? ⟨b, 0, none⟩ = some (.int .u8 (F.kind : Nat)) ∧ w.cell? ⟨b, 1, none⟩ = some (.bool F.valid) ∧ w.cell? ⟨b, 2, none⟩ = some (.bool F.hasTime) ∧ w.cell? ⟨b, 3, none⟩ = some (.bool F.hasDate) ∧
    (w.cell? ⟨b, 5, none⟩ = some (.int .i64 (F.time.1 : Nat)) ∧ w.cell? ⟨b, 6, none⟩ = some (.int .i64 (F.time.2.1 : Nat)) ∧ w.cell? ⟨b, 7, none⟩ = some (.int .i64 (F.time.2.2.1 : Nat)) ∧ w.cell? ⟨b, 8, none⟩ = some (.bool F.time.2.2.2)) ∧
    w.cell? ⟨b, 9, none⟩ = some (.int .i64 F.day) ∧ w.cell? ⟨b, 10, none⟩ = some (.int .i64 F.month) ∧ w.cell? ⟨b, 11, none⟩ = some (.int .i64 F.year) := by
  refine ⟨?_, ?_, ?_, ?_, ⟨?_, ?_, ?_, ?_⟩, ?_, ?_, ?_⟩ <;> (simp [World.cell?, h]; rfl)
theorem none_ok : sentErr noneB = 0 := by kernel_rfl

set_option maxRecDepth 100000 in
set_option maxHeartbeats 2000000 in
theorem law_clock_bad (sec : Int) (valid : Bool) (w : World) (hs : -9223372036854775808 ≤ sec ∧ sec ≤ 9223372036854775807) (hb : sec < 0 ∨ 9467107200 ≤ sec) (ht : Tabs w) :
    Calls Tryz.prog 3 #[.int .i64 sec, .bool valid] w fun e w' => e = .returned (.bool true) ∧ Grew w w' := by
  have HK := fun w ht => Lib.hid (known_11 w ht)
  have HC := Lib.hid (prog_Clock_bad sec valid w hs hb ht ⟨#[]⟩)
  have HO := fun w => Lib.hid (ref03_Of_bad sec w hs hb)
  have HT := Lib.hid ht
  clear ht
  go_enter Tryz.func3, Tryz.ntmps3
  go_wp2_with fail
  refine HC.out.mono ?_
  rintro e w1 ⟨v, rfl, hrow, g1⟩
  obtain ⟨A, c, rfl⟩ := row_nil_form hrow
  go_upto_region 3 with (go_at_call 5; refine (HO _).out.mono ?_; rintro e w2 ⟨rfl, g2⟩)
  obtain ⟨W, hW, g0, x⟩ := six_new w2 (.int .i64 0) (.int .i64 0) (.int .i64 0) (.int .i64 0) (.int .i64 0) (.int .i64 0) 27
  rw [hW]
  clear hW
  obtain ⟨_, x0, x1, x2, x3, x4, x5⟩ := x
  have G := Lib.hid ((g1.trans g2).trans g0)
  go_wp2_with (go_at_call 6; refine (HK _ (HT.out.grew (by first | exact G.out | exact G.out.drew))).out.mono ?_; rintro e w3 ⟨rfl, g3⟩)
  go_ret
  exact ⟨rfl, by first | exact G.out.trans g3 | exact G.out.drew.trans g3⟩
set_option maxRecDepth 100000 in
set_option maxHeartbeats 2000000 in
theorem law_clock_old (sec : Int) (valid : Bool) (w : World) (Y m D H I S : Nat) (h : IsAt sec Y m D H I S) (hY : Y < 1980) (ht : Tabs w) :
    Calls Tryz.prog 3 #[.int .i64 sec, .bool valid] w fun e w' => e = .returned (.bool true) ∧ Grew w w' := by
  have HK := fun w ht => Lib.hid (known_11 w ht)
  have HC := Lib.hid (prog_Clock_old sec valid w Y m D H I S h hY ht ⟨#[]⟩)
  have HO := fun w => ref03_Of_at sec Y m w h.hin
  rw [h.eq] at HO
  replace HO := fun w => Lib.hid (HO w)
  have HT := Lib.hid ht
  have c1 : (Y : Int) < 1980 := by omega
  clear ht h hY
  go_enter Tryz.func3, Tryz.ntmps3
  go_wp2_with fail
  refine HC.out.mono ?_
  rintro e w1 ⟨v, rfl, hrow, g1⟩
  obtain ⟨A, c, rfl⟩ := row_nil_form hrow
  go_upto_region 3 with (go_at_call 5; refine (HO _).out.mono ?_; rintro e w2 ⟨rfl, g2⟩)
  obtain ⟨W, hW, g0, x⟩ := six_new w2 (.int .i64 (Y : Nat)) (.int .i64 (m : Nat)) (.int .i64 (D : Nat)) (.int .i64 (H : Nat)) (.int .i64 (I : Nat)) (.int .i64 (S : Nat)) 27
  rw [hW]
  clear hW
  obtain ⟨_, x0, x1, x2, x3, x4, x5⟩ := x
  have G := Lib.hid ((g1.trans g2).trans g0)
  go_wp2_with (go_at_call 6; refine (HK _ (HT.out.grew (by first | exact G.out | exact G.out.drew))).out.mono ?_; rintro e w3 ⟨rfl, g3⟩)
  go_ret
  exact ⟨rfl, by first | exact G.out.trans g3 | exact G.out.drew.trans g3⟩

set_option maxRecDepth 100000 in
set_option maxHeartbeats 4000000 in
theorem law_clock_in (sec : Int) (valid : Bool) (s : ByteArray) (F : Told) (w : World) (Y m D H I S : Nat) (h : IsAt sec Y m D H I S) (hss : s.size ≤ 1000) (hse : sentErr s = 0)
    (hC : Calls Tryz.prog 4 #[.int .i64 sec, .bool valid] w (CmdT 0 s w)) (hF : parseOf s = (F, 0)) (hk : F.kind = 5) (hv : F.valid = valid)
    (hn : valid = false → F.hasTime = false ∧ F.hasDate = false) (hy : valid = true → F.time = (H, I, S, true) ∧ F.day = (D : Nat) ∧ F.month = (m : Nat) ∧ F.year = (Y : Nat)) (ht : Tabs w) :
    Calls Tryz.prog 3 #[.int .i64 sec, .bool valid] w fun e w' => e = .returned (.bool true) ∧ Grew w w' := by
  have HK := fun w ht => Lib.hid (known_11 w ht)
  have HO := fun w => ref03_Of_at sec Y m w h.hin
  rw [h.eq] at HO
  replace HO := fun w => Lib.hid (HO w)
  have HB := fun v w hr => Lib.hid (body_ok11 v s w hr hss hse)
  rw [cmdT_ok, hse] at hC
  obtain ⟨L, hL⟩ : ∃ L, sentRow s = L := ⟨_, rfl⟩
  rw [hL] at hC HB
  replace hC := Lib.hid hC
  have HP := fun w => prog_Parse s w hss
  unfold ParseT Told.value at HP
  rw [hF] at HP
  replace HP := fun w => Lib.hid (HP w)
  have HZ := Lib.hid fix_zero.1
  have HI := Lib.hid fix_zero.2
  have n1 := Lib.hid (told_size F)
  have o1 := Lib.hid (told_one F)
  have nz := Lib.hid (told_size {})
  have HX := Lib.hid (fun w b hb => fix_cells w b F hb)
  have HT := Lib.hid ht
  obtain ⟨C, hCe⟩ : ∃ C, Told.cells F = C := ⟨_, rfl⟩
  obtain ⟨Z, hz⟩ : ∃ C, Told.cells {} = C := ⟨_, rfl⟩
  rw [hCe] at HP n1 o1 HX
  rw [hz] at HZ nz
  clear hCe hz hL hse hss hF ht h
  go_enter Tryz.func3, Tryz.ntmps3
  go_wp2_with fail
  refine hC.out.mono ?_
  rintro e w1 ⟨v, rfl, hrow, g1⟩
  have R1 := Lib.hid hrow
  clear hrow
  go_upto_region 3 with (go_at_call 5; refine (HO _).out.mono ?_; rintro e w2 ⟨rfl, g2⟩)
  obtain ⟨W, hW, g0, x⟩ := six_new w2 (.int .i64 (Y : Nat)) (.int .i64 (m : Nat)) (.int .i64 (D : Nat)) (.int .i64 (H : Nat)) (.int .i64 (I : Nat)) (.int .i64 (S : Nat)) 27
  rw [hW]
  clear hW
  have R2 := Lib.hid (R1.out.grew (g2.trans g0))
  have G := Lib.hid ((g1.trans g2).trans g0)
  have HX6 := Lib.hid x
  clear g0 g1 g2 R1 x
  go_wp2_with fail
  refine (HB _ _ R2.out).out.mono ?_
  rintro e w3 ⟨rfl, g3⟩
  go_upto_region 7 with (first | (go_at_call 8; refine (HP _).out.mono ?_; rintro e w4 ⟨rfl, g4⟩) | (refine wpList_alloc_as rfl 36 rfl Z HZ.out ?_) | (refine wpList_store_new rfl 36 _ _ rfl w4 C Z 36 rfl rfl rfl (by rw [HI.out, n1.out]) (by rw [nz.out, n1.out]) o1.out ?_))
  obtain ⟨V, hV, gV, sV, cV⟩ := newO w4 (.cells C 36)
  rw [hV]
  clear hV
  obtain ⟨y0, y1, y2, y3, ⟨y5, y6, y7, y8⟩, y9, y10, y11⟩ := HX.out V _ cV
  obtain ⟨_, x0, x1, x2, x3, x4, x5⟩ := HX6.out.grew ((g3.trans g4).trans gV)
  have G4 := Lib.hid (((G.out.trans g3).trans g4).trans gV)
  rw [hk] at y0
  rw [hv] at y1
  clear hC HX HX6 HZ HI n1 o1 nz cV sV G g3 g4 gV
  cases valid
  · obtain ⟨q1, q2⟩ := hn rfl
    rw [q1] at y2
    rw [q2] at y3
    go_wp2_with (go_at_call 6; refine (HK _ (HT.out.grew (by first | exact G4.out | exact G4.out.drew))).out.mono ?_; rintro e w5 ⟨rfl, g5⟩)
    go_ret
    exact ⟨rfl, by first | exact G4.out.trans g5 | exact G4.out.drew.trans g5⟩
  · obtain ⟨q1, q2, q3, q4⟩ := hy rfl
    rw [q1] at y5 y6 y7 y8
    rw [q2] at y9
    rw [q3] at y10
    rw [q4] at y11
    go_wp2_with (go_at_call 6; refine (HK _ (HT.out.grew (by first | exact G4.out | exact G4.out.drew))).out.mono ?_; rintro e w5 ⟨rfl, g5⟩)
    go_ret
    exact ⟨rfl, by first | exact G4.out.trans g5 | exact G4.out.drew.trans g5⟩

theorem clock_ok11 (Y m D H I S : Nat) : sentErr (clockB Y m D H I S) = 0 := by
  have hsz := clockB_size Y m D H I S
  unfold sentErr
  rw [if_neg (by omega)]
  have hm : ∀ x ∈ nat (clockB Y m D H I S), may x = true := by
    have hd : ∀ k n, ∀ x ∈ (digL k n).map UInt8.toNat, may x = true := fun k => by
      induction k with
      | zero => intro n x hx; cases hx
      | succ k ih =>
        intro n x hx
        rw [digL, List.map_append, List.mem_append] at hx
        rcases hx with hx | hx
        · exact ih _ x hx
        · simp only [List.map_cons, List.map_nil, List.mem_singleton] at hx
          rw [hx, (dig_no (n % 10) (by omega)).2]
          have : ∀ i : Fin 10, may (48 + i.val) = true := by decide
          exact this ⟨n % 10, by omega⟩
    intro x hx
    unfold nat at hx
    rw [show (clockB Y m D H I S).data.toList = bytesOf (clockB Y m D H I S) from rfl, clock_bytes] at hx
    simp only [List.map_append, List.map_cons, List.mem_append, List.mem_cons] at hx
    have h44 : may 44 = true := by decide
    rcases hx with hx | rfl | ((hx | hx) | hx) | rfl | hx | rfl | hx | rfl | hx | rfl | hx | rfl | hx
    · rcases hx with rfl | rfl | rfl | rfl | rfl | hx
      all_goals first | decide | (cases hx)
    · exact h44
    · exact hd _ _ x hx
    · exact hd _ _ x hx
    · exact hd _ _ x hx
    · exact h44
    · exact hd _ _ x hx
    · exact h44
    · exact hd _ _ x hx
    · exact h44
    · exact hd _ _ x hx
    · exact h44
    · rcases hx with rfl | rfl | hx
      all_goals first | decide | (cases hx)
    · exact h44
    · rcases hx with rfl | rfl | hx
      all_goals first | decide | (cases hx)
  unfold frameErr
  rw [if_pos rfl, if_neg (by rw [nat_length, hsz]; decide), if_pos (List.all_eq_true.2 hm)]
theorem law_clock (sec : Int) (valid : Bool) (w : World) (hs : -9223372036854775808 ≤ sec ∧ sec ≤ 9223372036854775807) (ht : Tabs w) :
    Calls Tryz.prog 3 #[.int .i64 sec, .bool valid] w fun e w' => e = .returned (.bool true) ∧ Grew w w' := by
  by_cases hb : sec < 0 ∨ 9467107200 ≤ sec
  · exact law_clock_bad sec valid w hs hb ht
  obtain ⟨Y, m, D, H, I, S, h⟩ := is_at sec (by omega)
  by_cases hY : Y < 1980
  · exact law_clock_old sec valid w Y m D H I S h hY ht
  cases valid
  · exact law_clock_in sec false noneB _ w Y m D H I S h (by decide) none_ok (prog_Clock_no sec w Y m D H I S h (by omega) ht) clock_none rfl rfl (fun _ => ⟨rfl, rfl⟩) (fun h => by cases h) ht
  · exact law_clock_in sec true (clockB Y m D H I S) _ w Y m D H I S h (by rw [clockB_size]; decide) (clock_ok11 Y m D H I S) (prog_Clock_ok sec w Y m D H I S h (by omega) ht) (clock_told Y m D H I S ⟨by omega, h.hy.2⟩ h.hm h.hd h.hh h.hi h.hs) rfl rfl (fun h => by cases h) (fun _ => ⟨rfl, rfl, rfl, rfl⟩) ht
end Go.Proofs.YtlcmjedbdopglaaGreatDoor

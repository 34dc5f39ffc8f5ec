/-
  The document's fields: times, dates, one of some bytes.
-/
import Derived.Test.YtbgepjhnnlippaaFldT
import Derived.Deep.QuietTactic
import Derived.BigQuiet
namespace Go.Proofs.Ytbgepjhnnlippaa
open Go.RowKit
set_option linter.unusedVariables false

set_option maxHeartbeats 1000000 in
theorem ref09_two (s : ByteArray) (i : Nat) (w : World) (hs : s.size ≤ 1000) (hi : i + 1 < s.size) (h1 : isDig (wd (nat s) i) = true) (h2 : isDig (wd (nat s) (i + 1)) = true) :
    Calls Try.prog 28 #[.string s, .int .i64 (i : Nat)] w fun e w' => e = .returned (.int .i64 (twoOf (nat s) i : Nat)) ∧ Grew w w' := by
  have y0 := fun w => str_at s i (by omega) w
  have y1 := fun w => str_at s (i + 1) hi w
  have e1 : IntKind.i64.wrap ((i : Int) + 1) = ((i + 1 : Nat) : Int) := by rw [IntWalk.i64_in _ (by omega)]; omega
  have hT : Hid (twoOf (nat s) i = 10 * (wd (nat s) i - 48) + (wd (nat s) (i + 1) - 48)) := rfl
  unfold isDig at h1 h2
  simp at h1 h2
  have m0 : (0 : Int) ≤ i := by omega
  have m1 : (i : Int) < s.size := by omega
  have m2 : ((i + 1 : Nat) : Int) < s.size := by omega
  have m3 : (0 : Int) ≤ ((i + 1 : Nat) : Int) := by omega
  generalize i + 1 = j at *
  generalize wd (nat s) i = a at *
  generalize wd (nat s) j = b at *
  have d1 : IntKind.u8.wrap ((a : Int) - 48) = ((a - 48 : Nat) : Int) := by rw [IntWalk.u8_in _ (by omega)]; omega
  have d2 : IntKind.u8.wrap ((b : Int) - 48) = ((b - 48 : Nat) : Int) := by rw [IntWalk.u8_in _ (by omega)]; omega
  have ha : a - 48 ≤ 9 := by omega
  have hb : b - 48 ≤ 9 := by omega
  generalize a - 48 = p at *
  generalize b - 48 = q at *
  have d3 : IntKind.i64.wrap (p : Int) = p := IntWalk.i64_in _ (by omega)
  have d4 : IntKind.i64.wrap (q : Int) = q := IntWalk.i64_in _ (by omega)
  have d5 : IntKind.i64.wrap (10 * (p : Int)) = 10 * p := IntWalk.i64_in _ (by omega)
  have d6 : IntKind.i64.wrap (10 * (p : Int) + q) = 10 * p + q := IntWalk.i64_in _ (by omega)
  go_enter Try.func28, Try.ntmps28
  go_wp2_with fail
  go_quiet (fail)
  go_wp2_with fail
  go_ret
  exact ⟨by rw [hT.out]; simp, by repeat (first | (with_reducible exact Grew.refl _) | (with_reducible refine Grew.drewN ?_ _) | (with_reducible refine Grew.drew ?_))⟩

/-- A variable of four cells. -/
structure FourAt (w : World) (b : Nat) (x0 x1 x2 x3 : Value) : Prop where
  lt : b < w.heap.size
  c0 : w.cell? ⟨b, 0, none⟩ = some x0
  c1 : w.cell? ⟨b, 1, none⟩ = some x1
  c2 : w.cell? ⟨b, 2, none⟩ = some x2
  c3 : w.cell? ⟨b, 3, none⟩ = some x3
  f0 : w.frozen? ⟨b, 0, none⟩ = false
  f1 : w.frozen? ⟨b, 1, none⟩ = false
  f2 : w.frozen? ⟨b, 2, none⟩ = false
  f3 : w.frozen? ⟨b, 3, none⟩ = false
section
variable {w w' : World} {b c : Nat} {x0 x1 x2 x3 : Value}
theorem FourAt.new (w : World) (x0 x1 x2 x3 : Value) (E : TypeId) : FourAt (w.alloc (.cells #[x0, x1, x2, x3] E)) w.heap.size x0 x1 x2 x3 := by
  refine ⟨by simp, ?_, ?_, ?_, ?_, ?_, ?_, ?_, ?_⟩ <;> simp [go_sem]
theorem FourAt.grew (h : FourAt w b x0 x1 x2 x3) (g : Grew w w') : FourAt w' b x0 x1 x2 x3 :=
  ⟨Nat.lt_of_lt_of_le h.lt g.size, (g.cell (p := ⟨b, 0, none⟩) h.lt).trans h.c0, (g.cell (p := ⟨b, 1, none⟩) h.lt).trans h.c1, (g.cell (p := ⟨b, 2, none⟩) h.lt).trans h.c2, (g.cell (p := ⟨b, 3, none⟩) h.lt).trans h.c3,
   (g.frozen (p := ⟨b, 0, none⟩) h.lt).trans h.f0, (g.frozen (p := ⟨b, 1, none⟩) h.lt).trans h.f1, (g.frozen (p := ⟨b, 2, none⟩) h.lt).trans h.f2, (g.frozen (p := ⟨b, 3, none⟩) h.lt).trans h.f3⟩
theorem cell_ne4 {i j : Nat} (h : i ≠ j) : (⟨b, i, none⟩ : Addr) ≠ ⟨b, j, none⟩ := fun e => h (by injection e)
theorem FourAt.set3 (h : FourAt w b x0 x1 x2 x3) (y : Value) : FourAt (w.setCell ⟨b, 3, none⟩ y) b x0 x1 x2 y :=
  ⟨by simpa [World.setCell] using h.lt, (World.cell?_setCell_other _ _ _ _ (cell_ne4 (by omega))).trans h.c0, (World.cell?_setCell_other _ _ _ _ (cell_ne4 (by omega))).trans h.c1, (World.cell?_setCell_other _ _ _ _ (cell_ne4 (by omega))).trans h.c2, World.cell?_setCell_same _ _ _ h.c3,
   by simpa using h.f0, by simpa using h.f1, by simpa using h.f2, by simpa using h.f3⟩
theorem FourAt.set0 (h : FourAt w b x0 x1 x2 x3) (y : Value) : FourAt (w.setCell ⟨b, 0, none⟩ y) b y x1 x2 x3 :=
  ⟨by simpa [World.setCell] using h.lt, World.cell?_setCell_same _ _ _ h.c0, (World.cell?_setCell_other _ _ _ _ (cell_ne4 (by omega))).trans h.c1, (World.cell?_setCell_other _ _ _ _ (cell_ne4 (by omega))).trans h.c2, (World.cell?_setCell_other _ _ _ _ (cell_ne4 (by omega))).trans h.c3,
   by simpa using h.f0, by simpa using h.f1, by simpa using h.f2, by simpa using h.f3⟩
theorem FourAt.set1 (h : FourAt w b x0 x1 x2 x3) (y : Value) : FourAt (w.setCell ⟨b, 1, none⟩ y) b x0 y x2 x3 :=
  ⟨by simpa [World.setCell] using h.lt, (World.cell?_setCell_other _ _ _ _ (cell_ne4 (by omega))).trans h.c0, World.cell?_setCell_same _ _ _ h.c1, (World.cell?_setCell_other _ _ _ _ (cell_ne4 (by omega))).trans h.c2, (World.cell?_setCell_other _ _ _ _ (cell_ne4 (by omega))).trans h.c3,
   by simpa using h.f0, by simpa using h.f1, by simpa using h.f2, by simpa using h.f3⟩
theorem FourAt.set2 (h : FourAt w b x0 x1 x2 x3) (y : Value) : FourAt (w.setCell ⟨b, 2, none⟩ y) b x0 x1 y x3 :=
  ⟨by simpa [World.setCell] using h.lt, (World.cell?_setCell_other _ _ _ _ (cell_ne4 (by omega))).trans h.c0, (World.cell?_setCell_other _ _ _ _ (cell_ne4 (by omega))).trans h.c1, World.cell?_setCell_same _ _ _ h.c2, (World.cell?_setCell_other _ _ _ _ (cell_ne4 (by omega))).trans h.c3,
   by simpa using h.f0, by simpa using h.f1, by simpa using h.f2, by simpa using h.f3⟩
theorem FourAt.other (h : FourAt w b x0 x1 x2 x3) (hne : b ≠ c) (i : Nat) (y : Value) : FourAt (w.setCell ⟨c, i, none⟩ y) b x0 x1 x2 x3 := by
  have ne : ∀ {i j : Nat}, (⟨c, i, none⟩ : Addr) ≠ ⟨b, j, none⟩ := fun e => hne (by injection e with e; exact e.symm)
  exact ⟨by simpa [World.setCell] using h.lt, (World.cell?_setCell_other _ _ _ _ ne).trans h.c0, (World.cell?_setCell_other _ _ _ _ ne).trans h.c1, (World.cell?_setCell_other _ _ _ _ ne).trans h.c2, (World.cell?_setCell_other _ _ _ _ ne).trans h.c3,
   by simpa using h.f0, by simpa using h.f1, by simpa using h.f2, by simpa using h.f3⟩
end
def fourSet (w : World) (b : Nat) (y0 y1 y2 y3 : Value) : World := (((w.setCell ⟨b, 0, none⟩ y0).setCell ⟨b, 1, none⟩ y1).setCell ⟨b, 2, none⟩ y2).setCell ⟨b, 3, none⟩ y3
theorem FourAt.all {w : World} {b : Nat} {x0 x1 x2 x3 : Value} (h : FourAt w b x0 x1 x2 x3) (y0 y1 y2 y3 : Value) : FourAt (fourSet w b y0 y1 y2 y3) b y0 y1 y2 y3 := (((h.set0 y0).set1 y1).set2 y2).set3 y3
theorem Grew.four {w w' : World} (g : Grew w w') (b : Nat) (hb : w.heap.size ≤ b) (y0 y1 y2 y3 : Value) : Grew w (fourSet w' b y0 y1 y2 y3) := (((g.setCell (p := ⟨b, 0, none⟩) hb _).setCell (p := ⟨b, 1, none⟩) hb _).setCell (p := ⟨b, 2, none⟩) hb _).setCell (p := ⟨b, 3, none⟩) hb _
theorem clockW (w : World) (E1 E2 : TypeId) : ∃ W, (w.alloc (.cells #[.int .i64 0, .int .i64 0, .int .i64 0, .bool false] E1)).alloc (.cells #[.int .i64 0, .int .i64 0, .int .i64 0, .bool false] E2) = W ∧ Grew w W ∧ FourAt W w.heap.size (.int .i64 0) (.int .i64 0) (.int .i64 0) (.bool false) ∧ FourAt W (w.heap.size + 1) (.int .i64 0) (.int .i64 0) (.int .i64 0) (.bool false) := by
  have h := FourAt.new (w.alloc (.cells #[.int .i64 0, .int .i64 0, .int .i64 0, .bool false] E1)) (.int .i64 0) (.int .i64 0) (.int .i64 0) (.bool false) E2
  rw [World.size_alloc] at h
  exact ⟨_, rfl, ((Grew.refl w).alloc _).alloc _, (FourAt.new w _ _ _ _ _).grew ((Grew.refl _).alloc _), h⟩

theorem all_more (S : List Nat) (p : Nat → Bool) (m : Nat) (hm : 7 ≤ m) (hl : m < S.length) : ((S.drop 7).take (m + 1 - 7)).all p = (((S.drop 7).take (m - 7)).all p && p (wd S m)) := by
  rw [show m + 1 - 7 = (m - 7) + 1 by omega, List.take_add_one, List.all_append, List.getElem?_drop, show 7 + (m - 7) = m by omega, List.getElem?_eq_getElem hl, wd_lt hl]
  simp
/-- A time of day, as it is told. -/
def dayVal (c : (Nat × Nat × Nat × Bool) × Nat) : Value := .tuple #[.agg #[.int .i64 (c.1.1 : Nat), .int .i64 (c.1.2.1 : Nat), .int .i64 (c.1.2.2.1 : Nat), .bool c.1.2.2.2], .int .i64 (c.2 : Nat)]
set_option maxRecDepth 100000 in
set_option maxHeartbeats 1000000 in
theorem ref09_Clock (s : ByteArray) (w : World) (hs : s.size ≤ 1000) :
    Calls Try.prog 11 #[.string s] w fun e w' => e = .returned (dayVal (clockOf (nat s))) ∧ Grew w w' := by
  have hl := nat_length s
  have HR := fun w => Lib.hid (ref09_read s w hs)
  have HPT := fun w => Lib.hid (ref09_point s w hs)
  have hpl := pointOf_le (nat s)
  have HW := Lib.hid (clockW w 28 28)
  rw [hl] at hpl
  by_cases hr : readE (nat s) = 0
  · have hz := readE_zero hr
    have hB : Hid (clockOf (nat s) = if pointOf (nat s) ≠ 6 ∨ digs (nat s) 0 6 = false ∨ (6 < s.size ∧ digs (nat s) 7 s.size = false) then ((0, 0, 0, false), 5)
      else if 23 < twoOf (nat s) 0 ∨ 59 < twoOf (nat s) 2 ∨ 60 < twoOf (nat s) 4 then ((0, 0, 0, false), 5)
      else ((twoOf (nat s) 0, twoOf (nat s) 2, twoOf (nat s) 4, ((nat s).drop 7).all (fun b => b == 48)), 0)) := by show _ = _; unfold clockOf; rw [if_neg (by omega), hl]
    rw [hr] at HR
    by_cases hp6 : pointOf (nat s) ≠ 6
    · have hI : Hid (clockOf (nat s) = ((0, 0, 0, false), 5)) := by show _ = _; rw [hB.out, if_pos (.inl hp6)]
      have p1 : ¬ ((pointOf (nat s) : Nat) : Int) = 6 := by omega
      have p2 : (((pointOf (nat s) : Nat) : Int) == 6) = false := by simpa using p1
      clear hB hl hr hp6
      generalize pointOf (nat s) = p at *
      go_enter Try.func11, Try.ntmps11
      go_upto_region 2 with fail
      obtain ⟨W, hW, gW, hA, hC⟩ := HW.out
      rw [hW]
      have HA := Lib.hid hA
      have HC := Lib.hid hC
      have HG := Lib.hid gW
      clear hW HW hA hC gW
      obtain ⟨a, a0, a1, a2, a3, a4, a5, a6, a7⟩ := HA.out
      obtain ⟨c, c0, c1, c2, c3, c4, c5, c6, c7⟩ := HC.out
      go_wp2_with (first | (go_at_call 21; refine (HR _).out.mono ?_; rintro e w1 ⟨rfl, rfl⟩) | (go_at_call 26; refine (HPT _).out.mono ?_; rintro e w1 ⟨rfl, rfl⟩))
      refine bodyPost_ret (by simp [results, Try.results11, go_sem, a0, a1, a2, a3]; try rfl) rfl ?_
      exact ⟨by rw [hI.out]; rfl, HG.out.four _ (Nat.le_refl _) _ _ _ _⟩

    · have hp6 : pointOf (nat s) = 6 := by omega
      rw [hp6] at HPT
      have HD : ∀ w, Hid (Calls Try.prog 22 #[.string s, .int .i64 0, .int .i64 6] w fun e w' => e = .returned (.bool (digs (nat s) 0 6)) ∧ w = w') := fun w => ref09_Digits s 0 6 w hs (by omega) (by omega)
      cases hd : digs (nat s) 0 6
      · have hI : Hid (clockOf (nat s) = ((0, 0, 0, false), 5)) := by show _ = _; rw [hB.out, if_pos (.inr (.inl hd))]
        rw [hd] at HD
        have HD7 := HD
        clear hB hd hl hr hp6 hpl
        go_enter Try.func11, Try.ntmps11
        go_upto_region 2 with fail
        obtain ⟨W, hW, gW, hA, hC⟩ := HW.out
        rw [hW]
        have HA := Lib.hid hA
        have HC := Lib.hid hC
        have HG := Lib.hid gW
        clear hW HW hA hC gW
        obtain ⟨a, a0, a1, a2, a3, a4, a5, a6, a7⟩ := HA.out
        obtain ⟨c, c0, c1, c2, c3, c4, c5, c6, c7⟩ := HC.out
        go_wp2_with (first | (go_at_call 21; refine (HR _).out.mono ?_; rintro e w1 ⟨rfl, rfl⟩) | (go_at_call 26; refine (HPT _).out.mono ?_; rintro e w1 ⟨rfl, rfl⟩) | (go_at_call 22; first | (with_reducible refine (HD _).out.mono ?_; rintro e w1 ⟨rfl, rfl⟩) | (with_reducible refine (HD7 _).out.mono ?_; rintro e w1 ⟨rfl, rfl⟩)))
        refine bodyPost_ret (by simp [results, Try.results11, go_sem, a0, a1, a2, a3]; try rfl) rfl ?_
        exact ⟨by rw [hI.out]; rfl, HG.out.four _ (Nat.le_refl _) _ _ _ _⟩

      · rw [hd] at HD
        have hdig := digs_all (S := nat s) (by omega) hd
        by_cases hb2 : 6 < s.size ∧ digs (nat s) 7 s.size = false
        · have hI : Hid (clockOf (nat s) = ((0, 0, 0, false), 5)) := by show _ = _; rw [hB.out, if_pos (.inr (.inr hb2))]
          have HD7 : ∀ w, Hid (Calls Try.prog 22 #[.string s, .int .i64 7, .int .i64 (s.size : Nat)] w fun e w' => e = .returned (.bool (digs (nat s) 7 s.size)) ∧ w = w') := fun w => ref09_Digits s 7 s.size w hs (by omega) (Nat.le_refl _)
          rw [hb2.2] at HD7
          have p1 : (6 : Int) < s.size := by omega
          clear hB hd hl hr hp6 hpl hb2 hdig
          go_enter Try.func11, Try.ntmps11
          go_upto_region 2 with fail
          obtain ⟨W, hW, gW, hA, hC⟩ := HW.out
          rw [hW]
          have HA := Lib.hid hA
          have HC := Lib.hid hC
          have HG := Lib.hid gW
          clear hW HW hA hC gW
          obtain ⟨a, a0, a1, a2, a3, a4, a5, a6, a7⟩ := HA.out
          obtain ⟨c, c0, c1, c2, c3, c4, c5, c6, c7⟩ := HC.out
          go_wp2_with (first | (go_at_call 21; refine (HR _).out.mono ?_; rintro e w1 ⟨rfl, rfl⟩) | (go_at_call 26; refine (HPT _).out.mono ?_; rintro e w1 ⟨rfl, rfl⟩) | (go_at_call 22; first | (with_reducible refine (HD _).out.mono ?_; rintro e w1 ⟨rfl, rfl⟩) | (with_reducible refine (HD7 _).out.mono ?_; rintro e w1 ⟨rfl, rfl⟩)))
          refine bodyPost_ret (by simp [results, Try.results11, go_sem, a0, a1, a2, a3]; try rfl) rfl ?_
          exact ⟨by rw [hI.out]; rfl, HG.out.four _ (Nat.le_refl _) _ _ _ _⟩

        · have hB2 : Hid (clockOf (nat s) = if 23 < twoOf (nat s) 0 ∨ 59 < twoOf (nat s) 2 ∨ 60 < twoOf (nat s) 4 then ((0, 0, 0, false), 5)
            else ((twoOf (nat s) 0, twoOf (nat s) 2, twoOf (nat s) 4, ((nat s).drop 7).all (fun b => b == 48)), 0)) := by show _ = _; rw [hB.out, if_neg (fun h => by rcases h with h | h | h; exact h hp6; rw [hd] at h; cases h; exact hb2 h)]
          have HD7 : 6 < s.size → ∀ w, Hid (Calls Try.prog 22 #[.string s, .int .i64 7, .int .i64 (s.size : Nat)] w fun e w' => e = .returned (.bool true) ∧ w = w') := fun h w => by
            have := ref09_Digits s 7 s.size w hs (by omega) (Nat.le_refl _)
            have hb3 : digs (nat s) 7 s.size = true := by cases hq : digs (nat s) 7 s.size; exact absurd ⟨h, hq⟩ hb2; rfl
            rwa [hb3] at this
          have hsz : 6 ≤ s.size := by omega
          have D : ∀ i, i < 6 → isDig (wd (nat s) i) = true := fun i hi => hdig i (by omega) hi
          have HT0 : ∀ w, Hid (Calls Try.prog 28 #[.string s, .int .i64 0] w fun e w' => e = .returned (.int .i64 (twoOf (nat s) 0 : Nat)) ∧ Grew w w') := fun w => ref09_two s 0 w hs (by omega) (D 0 (by omega)) (D 1 (by omega))
          have HT2 : ∀ w, Hid (Calls Try.prog 28 #[.string s, .int .i64 2] w fun e w' => e = .returned (.int .i64 (twoOf (nat s) 2 : Nat)) ∧ Grew w w') := fun w => ref09_two s 2 w hs (by omega) (D 2 (by omega)) (D 3 (by omega))
          have HT4 : ∀ w, Hid (Calls Try.prog 28 #[.string s, .int .i64 4] w fun e w' => e = .returned (.int .i64 (twoOf (nat s) 4 : Nat)) ∧ Grew w w') := fun w => ref09_two s 4 w hs (by omega) (D 4 (by omega)) (D 5 (by omega))
          have l0 := two_lt (nat s) 0 (D 0 (by omega)) (D 1 (by omega))
          have l2 := two_lt (nat s) 2 (D 2 (by omega)) (D 3 (by omega))
          have l4 := two_lt (nat s) 4 (D 4 (by omega)) (D 5 (by omega))
          have HY := fun j h w => Lib.hid (str_at s j h w)
          have HL := Lib.hid hl
          generalize twoOf (nat s) 0 = T0 at *
          generalize twoOf (nat s) 2 = T2 at *
          generalize twoOf (nat s) 4 = T4 at *
          clear hB hd hl hr hp6 hpl hb2 hdig D
          go_enter Try.func11, Try.ntmps11
          go_upto_region 2 with fail
          obtain ⟨W, hW, gW, hA, hC⟩ := HW.out
          rw [hW]
          have HA := Lib.hid hA
          have HC := Lib.hid hC
          have HG := Lib.hid gW
          clear hW HW hA hC gW
          go_upto_region 6 with (first | (go_at_call 21; refine (HR _).out.mono ?_; rintro e w1 ⟨rfl, rfl⟩) | (go_at_call 26; refine (HPT _).out.mono ?_; rintro e w1 ⟨rfl, rfl⟩))
          go_cut [36] (fun q wx => q = .bool false ∧ W = wx)
          case first =>
            by_cases hps : 6 < s.size
            · have HD8 := HD7 hps
              have p1 : (6 : Int) < s.size := by omega
              clear HD7 hB2 HY HT0 HT2 HT4
              go_wp2_with (go_at_call 22; first | (with_reducible refine (HD _).out.mono ?_; rintro e w1 ⟨rfl, rfl⟩) | (with_reducible refine (HD8 _).out.mono ?_; rintro e w1 ⟨rfl, rfl⟩))
              all_goals go_meet
              all_goals exact ⟨by first | rfl | (simp; omega), rfl⟩
            · have p1 : ¬ (6 : Int) < s.size := by omega
              clear HD7 hB2 HY HT0 HT2 HT4
              go_wp2_with (go_at_call 22; refine (HD _).out.mono ?_; rintro e w1 ⟨rfl, rfl⟩)
              all_goals go_meet
              all_goals exact ⟨by first | rfl | (simp; omega), rfl⟩
          case rest =>
            obtain ⟨rfl, rfl⟩ := hcut
            clear HD7 HR HPT HD
            by_cases hbad : 23 < T0 ∨ 59 < T2 ∨ 60 < T4
            · have hI : Hid (clockOf (nat s) = ((0, 0, 0, false), 5)) := by show _ = _; rw [hB2.out, if_pos hbad]
              have hcase : 23 < T0 ∨ (¬ 23 < T0 ∧ 59 < T2) ∨ (¬ 23 < T0 ∧ ¬ 59 < T2 ∧ 60 < T4) := by omega
              clear hB2 hbad HY
              rcases hcase with h | ⟨h, h'⟩ | ⟨h, h', h''⟩
              · have z1 : (23 : Int) < T0 := by omega
                go_upto_region 9 with (first | (go_at_call 28; (first | (with_reducible refine (HT0 _).out.mono ?_) | (with_reducible refine (HT2 _).out.mono ?_) | (with_reducible refine (HT4 _).out.mono ?_)); rintro e w1 ⟨rfl, g1⟩; replace HA := Lib.hid (HA.out.grew g1); replace HC := Lib.hid (HC.out.grew g1); replace HG := Lib.hid (HG.out.trans g1); clear g1))
                obtain ⟨a, a0, a1, a2, a3, a4, a5, a6, a7⟩ := HA.out
                obtain ⟨c, c0, c1, c2, c3, c4, c5, c6, c7⟩ := HC.out
                go_wp2_with fail
                refine bodyPost_ret (by simp [results, Try.results11, go_sem, a0, a1, a2, a3]; try rfl) rfl ?_
                exact ⟨by rw [hI.out]; rfl, HG.out.four _ (Nat.le_refl _) _ _ _ _⟩
              · have z1 : ¬ (23 : Int) < T0 := by omega
                have z2 : (59 : Int) < T2 := by omega
                go_upto_region 9 with (first | (go_at_call 28; (first | (with_reducible refine (HT0 _).out.mono ?_) | (with_reducible refine (HT2 _).out.mono ?_) | (with_reducible refine (HT4 _).out.mono ?_)); rintro e w1 ⟨rfl, g1⟩; replace HA := Lib.hid (HA.out.grew g1); replace HC := Lib.hid (HC.out.grew g1); replace HG := Lib.hid (HG.out.trans g1); clear g1))
                obtain ⟨a, a0, a1, a2, a3, a4, a5, a6, a7⟩ := HA.out
                obtain ⟨c, c0, c1, c2, c3, c4, c5, c6, c7⟩ := HC.out
                go_wp2_with fail
                refine bodyPost_ret (by simp [results, Try.results11, go_sem, a0, a1, a2, a3]; try rfl) rfl ?_
                exact ⟨by rw [hI.out]; rfl, HG.out.four _ (Nat.le_refl _) _ _ _ _⟩
              · have z1 : ¬ (23 : Int) < T0 := by omega
                have z2 : ¬ (59 : Int) < T2 := by omega
                have z3 : (60 : Int) < T4 := by omega
                go_upto_region 9 with (first | (go_at_call 28; (first | (with_reducible refine (HT0 _).out.mono ?_) | (with_reducible refine (HT2 _).out.mono ?_) | (with_reducible refine (HT4 _).out.mono ?_)); rintro e w1 ⟨rfl, g1⟩; replace HA := Lib.hid (HA.out.grew g1); replace HC := Lib.hid (HC.out.grew g1); replace HG := Lib.hid (HG.out.trans g1); clear g1))
                obtain ⟨a, a0, a1, a2, a3, a4, a5, a6, a7⟩ := HA.out
                obtain ⟨c, c0, c1, c2, c3, c4, c5, c6, c7⟩ := HC.out
                go_wp2_with fail
                refine bodyPost_ret (by simp [results, Try.results11, go_sem, a0, a1, a2, a3]; try rfl) rfl ?_
                exact ⟨by rw [hI.out]; rfl, HG.out.four _ (Nat.le_refl _) _ _ _ _⟩
            · have hI : Hid (clockOf (nat s) = ((T0, T2, T4, ((nat s).drop 7).all (fun b => b == 48)), 0)) := by show _ = _; rw [hB2.out, if_neg hbad]
              have z1 : ¬ (23 : Int) < T0 := by omega
              have z2 : ¬ (59 : Int) < T2 := by omega
              have z3 : ¬ (60 : Int) < T4 := by omega
              clear hB2 hbad
              go_upto_region 10 with (first | (go_at_call 28; (first | (with_reducible refine (HT0 _).out.mono ?_) | (with_reducible refine (HT2 _).out.mono ?_) | (with_reducible refine (HT4 _).out.mono ?_)); rintro e w1 ⟨rfl, g1⟩; replace HA := Lib.hid (HA.out.grew g1); replace HC := Lib.hid (HC.out.grew g1); replace HG := Lib.hid (HG.out.trans g1); clear g1))
              go_upto_region 11 with (first | (go_at_call 28; with_reducible refine (HT4 _).out.mono ?_; rintro e w1 ⟨rfl, g1⟩; replace HA := Lib.hid (HA.out.grew g1); replace HC := Lib.hid (HC.out.grew g1); replace HG := Lib.hid (HG.out.trans g1); clear g1; obtain ⟨c, c0, c1, c2, c3, c4, c5, c6, c7⟩ := HC.out) | (go_at_call 28; (first | (with_reducible refine (HT0 _).out.mono ?_) | (with_reducible refine (HT2 _).out.mono ?_) | (with_reducible refine (HT4 _).out.mono ?_)); rintro e w1 ⟨rfl, g1⟩; replace HA := Lib.hid (HA.out.grew g1); replace HC := Lib.hid (HC.out.grew g1); replace HG := Lib.hid (HG.out.trans g1); clear g1))
              have HC2 := Lib.hid (HC.out.all (.int .i64 (T0 : Nat)) (.int .i64 (T2 : Nat)) (.int .i64 (T4 : Nat)) (.bool true))
              have HA2 := Lib.hid ((((HA.out.other (c := w.heap.size + 1) (by omega) 0 (.int .i64 (T0 : Nat))).other (c := w.heap.size + 1) (by omega) 1 (.int .i64 (T2 : Nat))).other (c := w.heap.size + 1) (by omega) 2 (.int .i64 (T4 : Nat))).other (c := w.heap.size + 1) (by omega) 3 (.bool true))
              have HG2 := Lib.hid (HG.out.four (w.heap.size + 1) (by omega) (.int .i64 (T0 : Nat)) (.int .i64 (T2 : Nat)) (.int .i64 (T4 : Nat)) (.bool true))
              unfold fourSet at HC2 HG2
              clear HT0 HT2 HT4 HA HC HG c c0 c1 c2 c3 c4 c5 c6 c7
              go_wp2_with fail
              go_loopw [7] (fun i wr => ∃ (m : Nat) (x : Bool), 7 ≤ m ∧ m ≤ s.size + 1 ∧ i = .int .i64 (m : Nat) ∧ Hid (x = (((nat s).drop 7).take (m - 7)).all (fun b => b == 48)) ∧ Hid (FourAt wr (w.heap.size + 1) (.int .i64 (T0 : Nat)) (.int .i64 (T2 : Nat)) (.int .i64 (T4 : Nat)) (.bool x)) ∧ Hid (FourAt wr w.heap.size (.int .i64 0) (.int .i64 0) (.int .i64 0) (.bool false)) ∧ Hid (Grew w wr)) (fun i _ => s.size + 1 - (intOf i).toNat)
              case atStart => exact ⟨7, true, by omega, by omega, rfl, by show _ = _; simp, HC2.out, HA2.out, HG2.out⟩
              case round =>
                clear HC2 HA2 HG2
                obtain ⟨m, x, hm, hm2, rfl, hX, HC, HA, HG⟩ := hrel
                obtain ⟨c, c0, c1, c2, c3, c4, c5, c6, c7⟩ := HC.out
                by_cases hlt : m < s.size
                · have y := fun w => (HY m hlt w).out
                  have m0 : (m : Int) < s.size := by omega
                  have hst := Lib.hid (all_more (nat s) (fun b => b == 48) m hm (by rw [HL.out]; exact hlt))
                  cases x
                  · have hX2 : Hid (false = (((nat s).drop 7).take (m + 1 - 7)).all (fun b => b == 48)) := by show _ = _; rw [hst.out, ← hX.out]; rfl
                    have HC2 := Lib.hid (HC.out.set3 (.bool false))
                    have HA2 := Lib.hid (HA.out.other (c := w.heap.size + 1) (by omega) 3 (.bool false))
                    have HG2 := Lib.hid (HG.out.setCell (p := ⟨w.heap.size + 1, 3, none⟩) (by simp only; omega) (.bool false))
                    clear hX hst HY hI HC HA HG
                    go_wp2_with fail
                    go_roundw
                    case rel => exact ⟨m + 1, false, by omega, by omega, by simp, hX2, HC2, HA2, HG2⟩
                    case measure => simp [intOf]; omega
                  · by_cases h48 : wd (nat s) m = 48
                    · have hX2 : Hid (true = (((nat s).drop 7).take (m + 1 - 7)).all (fun b => b == 48)) := by show _ = _; rw [hst.out, ← hX.out, h48]; rfl
                      have HC2 := Lib.hid (HC.out.set3 (.bool true))
                      have HA2 := Lib.hid (HA.out.other (c := w.heap.size + 1) (by omega) 3 (.bool true))
                      have HG2 := Lib.hid (HG.out.setCell (p := ⟨w.heap.size + 1, 3, none⟩) (by simp only; omega) (.bool true))
                      rw [h48] at y
                      clear hX hst HY hI HC HA HG h48
                      go_wp2_with fail
                      go_roundw
                      case rel => exact ⟨m + 1, true, by omega, by omega, by simp, hX2, HC2, HA2, HG2⟩
                      case measure => simp [intOf]; omega
                    · have hX2 : Hid (false = (((nat s).drop 7).take (m + 1 - 7)).all (fun b => b == 48)) := by show _ = _; rw [hst.out, ← hX.out]; simpa using h48
                      have HC2 := Lib.hid (HC.out.set3 (.bool false))
                      have HA2 := Lib.hid (HA.out.other (c := w.heap.size + 1) (by omega) 3 (.bool false))
                      have HG2 := Lib.hid (HG.out.setCell (p := ⟨w.heap.size + 1, 3, none⟩) (by simp only; omega) (.bool false))
                      have h48' : ¬ ((wd (nat s) m : Nat) : Int) = 48 := by omega
                      have h48'' : (((wd (nat s) m : Nat) : Int) == 48) = false := by simpa using h48'
                      clear hX hst HY hI HC HA HG h48
                      generalize wd (nat s) m = cc at *
                      go_wp2_with fail
                      go_roundw
                      case rel => exact ⟨m + 1, false, by omega, by omega, by simp, hX2, HC2, HA2, HG2⟩
                      case measure => simp [intOf]; omega
                · have hX2 : Hid (((nat s).drop 7).all (fun b => b == 48) = x) := by show _ = _; rw [hX.out, List.take_of_length_le (by rw [List.length_drop, HL.out]; omega)]
                  have m0 : ¬ (m : Int) < s.size := by omega
                  obtain ⟨a, a0, a1, a2, a3, a4, a5, a6, a7⟩ := HA.out
                  clear hX HY
                  go_wp2_with fail
                  refine bodyPost_ret (by simp [results, Try.results11, go_sem, a0, a1, a2, a3]; try rfl) rfl ?_
                  exact ⟨by rw [hI.out, hX2.out]; rfl, HG.out.four _ (Nat.le_refl _) _ _ _ _⟩
  · have hI : Hid (clockOf (nat s) = ((0, 0, 0, false), readE (nat s))) := by show _ = _; unfold clockOf; rw [if_pos hr]
    have hr9 := readE_le (nat s)
    have r0 : ¬ (readE (nat s) : Int) = 0 := by omega
    have r1 : ((readE (nat s) : Int) == 0) = false := by simpa using r0
    clear hl hr HPT
    generalize readE (nat s) = r at *
    go_enter Try.func11, Try.ntmps11
    go_upto_region 2 with fail
    obtain ⟨W, hW, gW, hA, hC⟩ := HW.out
    rw [hW]
    obtain ⟨a, a0, a1, a2, a3, a4, a5, a6, a7⟩ := hA
    obtain ⟨c, c0, c1, c2, c3, c4, c5, c6, c7⟩ := hC
    clear hW HW
    go_wp2_with (go_at_call 21; refine (HR _).out.mono ?_; rintro e w1 ⟨rfl, rfl⟩)
    refine bodyPost_ret (by simp [results, Try.results11, go_sem, a0, a1, a2, a3]; try rfl) rfl ?_
    exact ⟨by rw [hI.out]; rfl, gW.four _ (Nat.le_refl _) _ _ _ _⟩
end Go.Proofs.Ytbgepjhnnlippaa

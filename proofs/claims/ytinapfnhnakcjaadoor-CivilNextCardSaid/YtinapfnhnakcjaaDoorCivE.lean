/-
  Contracts of civil: the moment of a second.
-/
import Derived.Test.YtinapfnhnakcjaaDoorCivD
namespace Go.Proofs.YtinapfnhnakcjaaDoor
open Go.RowKit
set_option linter.unusedVariables false

/-- Six cells of a block, that may be written. -/
def Wet (w : World) (p : Nat) : Prop := w.frozen? ⟨p, 0, none⟩ = false ∧ w.frozen? ⟨p, 1, none⟩ = false ∧ w.frozen? ⟨p, 2, none⟩ = false ∧ w.frozen? ⟨p, 3, none⟩ = false ∧ w.frozen? ⟨p, 4, none⟩ = false ∧ w.frozen? ⟨p, 5, none⟩ = false
theorem Wet.grew {w w' : World} {p : Nat} (h : Wet w p) (hp : p < w.heap.size) (g : Grew w w') : Wet w' p := by
  obtain ⟨h0, h1, h2, h3, h4, h5⟩ := h
  exact ⟨(g.frozen hp).trans h0, (g.frozen hp).trans h1, (g.frozen hp).trans h2, (g.frozen hp).trans h3, (g.frozen hp).trans h4, (g.frozen hp).trans h5⟩
theorem six_wet (w : World) (a b c d e f : Value) (E : TypeId) : ∃ W, w.alloc (.cells #[a, b, c, d, e, f] E) = W ∧ Grew w W ∧ Six W w.heap.size a b c d e f ∧ Wet W w.heap.size := by
  refine ⟨_, rfl, (Grew.refl _).alloc _, ⟨by simp, ?_, ?_, ?_, ?_, ?_, ?_⟩, ?_, ?_, ?_, ?_, ?_, ?_⟩ <;> simp [go_sem]
theorem six_put {w w1 : World} (p : Nat) (g : Grew w w1) (hp : w.heap.size ≤ p) (a b c d e f : Value) :
    Grew w ((((((w1.setCell ⟨p, 0, none⟩ a).setCell ⟨p, 1, none⟩ b).setCell ⟨p, 2, none⟩ c).setCell ⟨p, 3, none⟩ d).setCell ⟨p, 4, none⟩ e).setCell ⟨p, 5, none⟩ f) :=
  (((((g.setCell hp _).setCell hp _).setCell hp _).setCell hp _).setCell hp _).setCell hp _

theorem civ_Of_bad (sec : Int) (w : World) (hs : -9223372036854775808 ≤ sec ∧ sec ≤ 9223372036854775807) (ht : Tab w) (hb : sec < 0 ∨ 9467107200 ≤ sec) :
    Calls Tryd.prog 15 #[.int .i64 sec] w fun e w' => e = .returned (.tuple #[moment 0 0 0 0 0 0, .int .i64 9]) ∧ Grew w w' := by
  have H1 := fun w ht => Lib.hid (civ_firstDay_one 2200 w (by omega) ht)
  rw [base_2200] at H1
  by_cases h1 : sec < 0
  · clear hb
    go_enter Tryd.func15, Tryd.ntmps15
    go_wp2_with fail
    refine bodyPost_ret (by simp [results, Tryd.results15, go_sem]; try rfl) rfl ?_
    exact ⟨rfl, by repeat (first | exact Grew.refl _ | apply Grew.drew | apply Grew.alloc)⟩
  · have h2 : 9467107200 ≤ sec := by omega
    clear hb
    go_enter Tryd.func15, Tryd.ntmps15
    go_wp2_with fail
    obtain ⟨W, hW, g0, x, f⟩ := six_wet w (.int .i64 0) (.int .i64 0) (.int .i64 0) (.int .i64 0) (.int .i64 0) (.int .i64 0) 32
    rw [hW]
    clear hW
    refine (H1 _ (ht.grew g0)).out.mono ?_
    rintro e w1 ⟨rfl, g1⟩
    obtain ⟨f0, f1, f2, f3, f4, f5⟩ := f.grew x.1 g1
    obtain ⟨_, c0, c1, c2, c3, c4, c5⟩ := x.grew g1
    go_wp2_with fail
    refine bodyPost_ret (by simp [results, Tryd.results15, go_sem, c0, c1, c2, c3, c4, c5]; try rfl) rfl ?_
    exact ⟨rfl, six_put _ (g0.trans g1) (Nat.le_refl _) _ _ _ _ _ _⟩

set_option maxHeartbeats 1000000 in
theorem civ_Of (sec : Int) (w : World) (hs : 0 ≤ sec ∧ sec < 9467107200) (ht : Tab w) :
    Calls Tryd.prog 15 #[.int .i64 sec] w fun e w' => ∃ (y : Int) (m : Nat), InMonth (sec / 86400) y m ∧
      e = .returned (.tuple #[moment y m (sec / 86400 - (base y + cum y (m - 1)) + 1) (sec % 86400 / 3600) (sec % 86400 % 3600 / 60) (sec % 86400 % 60), .int .i64 0]) ∧ Grew w w' := by
  have H1 := fun w ht => Lib.hid (civ_firstDay_one 2200 w (by omega) ht)
  rw [base_2200] at H1
  have H2 := fun w ht => Lib.hid (civ_date (sec / 86400) w (by omega) ht)
  have t1 : sec.tdiv 86400 = sec / 86400 := Int.tdiv_eq_ediv_of_nonneg hs.1
  have t2 : sec.tmod 86400 = sec % 86400 := Int.tmod_eq_emod_of_nonneg hs.1
  have hR : 0 ≤ sec % 86400 ∧ sec % 86400 < 86400 := by omega
  have hN : 0 ≤ sec / 86400 ∧ sec / 86400 < 109573 := by omega
  generalize sec % 86400 = R at *
  generalize sec / 86400 = N at *
  have t3 : R.tdiv 3600 = R / 3600 := Int.tdiv_eq_ediv_of_nonneg hR.1
  have t4 : R.tmod 3600 = R % 3600 := Int.tmod_eq_emod_of_nonneg hR.1
  have t5 : (R % 3600).tdiv 60 = R % 3600 / 60 := Int.tdiv_eq_ediv_of_nonneg (by omega)
  have t6 : R.tmod 60 = R % 60 := Int.tmod_eq_emod_of_nonneg hR.1
  go_enter Tryd.func15, Tryd.ntmps15
  go_wp2_with fail
  obtain ⟨W, hW, g0, x, f⟩ := six_wet w (.int .i64 0) (.int .i64 0) (.int .i64 0) (.int .i64 0) (.int .i64 0) (.int .i64 0) 32
  rw [hW]
  clear hW
  refine (H1 _ (ht.grew g0)).out.mono ?_
  rintro e w1 ⟨rfl, g1⟩
  clear H1
  go_wp2_with fail
  refine (H2 _ (ht.grew (g0.trans g1))).out.mono ?_
  rintro e w2 ⟨y, m, hin, rfl, g2⟩
  clear H2
  obtain ⟨f0, f1, f2, f3, f4, f5⟩ := f.grew x.1 (g1.trans g2)
  obtain ⟨_, c0, c1, c2, c3, c4, c5⟩ := x.grew (g1.trans g2)
  have hym : 1900 ≤ y ∧ y ≤ 2199 ∧ 1 ≤ m ∧ m ≤ 12 := ⟨hin.hy.1, hin.hy.2, hin.hm.1, hin.hm.2⟩
  obtain ⟨D, HD⟩ : ∃ D, Hid (N - (base y + cum y (m - 1)) + 1 = D) := ⟨_, Lib.hid rfl⟩
  rw [HD.out]
  go_wp2_with fail
  refine bodyPost_ret (by simp [results, Tryd.results15, go_sem, c0, c1, c2, c3, c4, c5]; try rfl) rfl ?_
  exact ⟨y, m, hin, by rw [HD.out], six_put _ ((g0.trans g1).trans g2) (Nat.le_refl _) _ _ _ _ _ _⟩
end Go.Proofs.YtinapfnhnakcjaaDoor

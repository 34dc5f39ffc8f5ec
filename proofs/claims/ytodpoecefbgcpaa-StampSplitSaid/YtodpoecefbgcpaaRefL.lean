/-
  Contracts of the document's numbers and stamps: which is greater; the short format; how far.
-/
import Derived.Test.YtodpoecefbgcpaaRefK
namespace Go.Proofs.Ytodpoecefbgcpaa
open Go.RowKit
set_option linter.unusedVariables false

def cmpInt (x y : Int) : Int := if y < x then 1 else if x < y then -1 else 0
theorem cmp_pos (x y : Int) (hx : 0 ≤ x) (hy : 0 ≤ y) : cmpOf x.natAbs y.natAbs = cmpInt x y := by
  unfold cmpOf cmpInt; (repeat' split) <;> omega
theorem cmp_neg (x y : Int) (hx : x < 0) (hy : y < 0) : cmpOf y.natAbs x.natAbs = cmpInt x y := by
  unfold cmpOf cmpInt; (repeat' split) <;> omega

set_option maxHeartbeats 1000000 in
theorem ref_Cmp (vx vy : Value) (x y : Int) (Lx Ly : Nat) (w : World) (hx : Num w vx x Lx) (hy : Num w vy y Ly) (hl : Lx ≤ 1000000) (kl : Ly ≤ 1000000) :
    Calls Try.prog 27 #[vx, vy] w fun e w' => e = .returned (.int .i64 (cmpInt x y)) ∧ Grew w w' := by
  obtain ⟨sx, xs, rfl, rx, wx, ex, lx⟩ := hx
  obtain ⟨sy, ys, rfl, ry, wy, ey, ly⟩ := hy
  obtain ⟨A, c, hA, _⟩ := rx.form
  obtain ⟨B, d, hB, _⟩ := ry.form
  subst hA hB
  have EX := Lib.hid ex; have EY := Lib.hid ey
  clear ex ey
  have g0 : Grew w ((w.alloc (.cells #[.bool (decide (x < 0)), .slice A xs.length c] 40)).alloc (.cells #[.bool (decide (y < 0)), .slice B ys.length d] 40)) := ((Grew.refl _).alloc _).alloc _
  by_cases hx : x < 0 <;> by_cases hy : y < 0
  · rw [decide_eq_true hx, decide_eq_true hy] at *
    rw [← cmp_neg x y hx hy, ← EX.out, ← EY.out]
    clear hx hy EX EY
    go_enter Try.func27, Try.ntmps27
    go_wp2_with (go_at_call 35; refine (ref_larger _ _ ys xs _ (ry.grew g0) (rx.grew g0) wy wx (by omega) (by omega)).mono ?_; rintro e w' ⟨rfl, rfl⟩)
    go_ret
    exact ⟨rfl, g0⟩
  · have e : cmpInt x y = -1 := by unfold cmpInt; rw [if_neg (by omega), if_pos (by omega)]
    rw [decide_eq_true hx, decide_eq_false hy] at *
    rw [e]
    clear hx hy EX EY e
    go_enter Try.func27, Try.ntmps27
    go_wp2_with fail
    go_ret
    exact ⟨rfl, g0⟩
  · have e : cmpInt x y = 1 := by unfold cmpInt; rw [if_pos (by omega)]
    rw [decide_eq_false hx, decide_eq_true hy] at *
    rw [e]
    clear hx hy EX EY e
    go_enter Try.func27, Try.ntmps27
    go_wp2_with fail
    go_ret
    exact ⟨rfl, g0⟩
  · rw [decide_eq_false hx, decide_eq_false hy] at *
    rw [← cmp_pos x y (by omega) (by omega), ← EX.out, ← EY.out]
    clear hx hy EX EY
    go_enter Try.func27, Try.ntmps27
    go_wp2_with (go_at_call 35; refine (ref_larger _ _ xs ys _ (rx.grew g0) (ry.grew g0) wx wy (by omega) (by omega)).mono ?_; rintro e w' ⟨rfl, rfl⟩)
    go_ret
    exact ⟨rfl, g0⟩

theorem ref02_Short_none (ns : Int) (w : World) (hs : -9223372036854775808 ≤ ns ∧ ns ≤ 9223372036854775807) (hn : ns ≤ 0) :
    Calls Try.prog 10 #[.int .i64 ns] w fun e w' => e = .returned (.int .u32 (shortOf ns)) ∧ Grew w w' := by
  rw [show shortOf ns = 0 by unfold shortOf; rw [if_pos hn]]
  go_enter Try.func10, Try.ntmps10
  go_wp2_with fail
  go_ret
  exact ⟨rfl, Grew.refl _⟩

set_option maxHeartbeats 1000000 in
theorem ref02_Short_some (ns : Int) (w : World) (hs : 0 < ns ∧ ns ≤ 9223372036854775807) :
    Calls Try.prog 10 #[.int .i64 ns] w fun e w' => e = .returned (.int .u32 (shortOf ns)) ∧ Grew w w' := by
  obtain ⟨X, HX⟩ : ∃ X, Hid (-(-(ns * 65536) / 1000000000) = X) := ⟨_, Lib.hid rfl⟩
  have hX : 0 < X ∧ X ≤ 604462909807315 := by have := HX.out; omega
  have HS : Hid (shortOf ns = if 4294967295 < X then 4294967295 else X) := by
    show _ = _; have := HX.out; unfold shortOf; rw [if_neg (by omega)]; split <;> omega
  have BX : Hid (held X = X) := held_in _ (by omega) (by omega)
  go_enter Try.func10, Try.ntmps10
  go_wp2_with fail
  refine (ref_Of ns _ (by omega)).mono ?_
  rintro e w1 ⟨v1, rfl, hN1, hg1⟩
  go_wp2_with fail
  refine (ref_Of 65536 _ (by omega)).mono ?_
  rintro e w2 ⟨v2, rfl, hN2, hg2⟩
  go_wp2_with fail
  refine (ref_Mul _ _ ns 65536 2 2 _ (hN1.grew hg2).num hN2.num (by omega) (by omega)).mono ?_
  rintro e w3 ⟨v3, rfl, hN3, hg3⟩
  go_wp2_with fail
  refine (ref_Of 1000000000 _ (by omega)).mono ?_
  rintro e w4 ⟨v4, rfl, hN4, hg4⟩
  go_wp2_with fail
  refine (ref_Up _ _ (ns * 65536) 1000000000 (2 + 64 * 2) 2 _ (hN3.grew hg4).num hN4.num (by omega) (by omega) (by omega)).mono ?_
  rw [HX.out]
  rintro e w5 ⟨v5, rfl, hN5, hg5⟩
  obtain ⟨A5, n5, c5, rfl⟩ := hN5.form
  generalize decide (X < 0) = pb at hN5 ⊢
  go_wp2_with fail
  obtain ⟨W, hW, g0, x0, x1, e1⟩ := one_new w5 (.bool pb) (.slice A5 n5 c5) 40
  rw [hW]
  clear hW
  replace hN5 := hN5.grew g0
  replace g0 := ((((hg1.trans hg2).trans hg3).trans hg4).trans hg5).trans g0
  have G : Grew W W.drew := (Grew.refl W).drew
  clear hN1 hN2 hN3 hN4 hg1 hg2 hg3 hg4 hg5
  obtain ⟨k, HK⟩ : ∃ k, Hid (cmpInt X 4294967295 = k) := ⟨_, Lib.hid rfl⟩
  have hk : -1 ≤ k ∧ k ≤ 1 := by have := HK.out; unfold cmpInt at this; (repeat' split at this) <;> omega
  have HKX : Hid (0 < k ↔ 4294967295 < X) := Lib.hid (by have := HK.out; unfold cmpInt at this; (repeat' split at this) <;> omega)
  go_region_held3 (fun w' => w'.cell? ⟨w5.heap.size, 0, none⟩ = some (.bool pb) ∧ w'.cell? ⟨w5.heap.size, 1, none⟩ = some (.slice A5 n5 c5))
    (exact two_keep G e1 x0 x1)
    (first
      | (go_at_call 20; refine (ref_Of 4294967295 _ (by omega)).mono ?_; rintro e w6 ⟨v6, rfl, hN6, hg⟩; replace G := G.trans hg; clear hg)
      | (go_at_call 27; refine (ref_Cmp (.agg #[.bool pb, .slice A5 n5 c5]) _ X 4294967295 _ 2 _ (hN5.grew G).num hN6.num (by omega) (by omega)).mono ?_; rw [HK.out]; rintro e w7 ⟨rfl, hg⟩; replace G := G.trans hg; clear hg))
  obtain ⟨y0, y1⟩ := two_keep G e1 x0 x1
  go_wp2_with (go_at_call 22; refine (ref_small _ X _ _ (hN5.grew G) (by omega)).mono ?_; rw [BX.out]; rintro e w8 ⟨rfl, hg8⟩)
  · go_ret
    refine ⟨ret_int ?_, g0.trans G⟩
    rw [HS.out, if_pos (HKX.out.1 (by assumption))]
  · go_ret
    refine ⟨ret_int ?_, g0.trans (G.trans hg8)⟩
    have hk0 : k ≤ 0 := by assumption
    have hno : ¬4294967295 < X := fun h => absurd (HKX.out.2 h) (by omega)
    rw [HS.out, if_neg hno]; omega

theorem ref02_Short (ns : Int) (w : World) (hs : -9223372036854775808 ≤ ns ∧ ns ≤ 9223372036854775807) :
    Calls Try.prog 10 #[.int .i64 ns] w fun e w' => e = .returned (.int .u32 (shortOf ns)) ∧ Grew w w' := by
  by_cases h : ns ≤ 0
  · exact ref02_Short_none ns w hs h
  · exact ref02_Short_some ns w (by omega)
end Go.Proofs.Ytodpoecefbgcpaa

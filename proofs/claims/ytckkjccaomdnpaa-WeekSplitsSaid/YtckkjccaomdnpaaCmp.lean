/-
  Contracts of the document's numbers: which is greater; a number in a block of its own.
-/
import Derived.Test.YtckkjccaomdnpaaRefC
namespace Go.Proofs.Ytckkjccaomdnpaa
open Go.RowKit
set_option linter.unusedVariables false

/-- A new block of two cells, under one name. -/
theorem one_new (w : World) (a b : Value) (E : TypeId) : ∃ W, w.alloc (.cells #[a, b] E) = W ∧ Grew w W ∧ W.cell? ⟨w.heap.size, 0, none⟩ = some a ∧ W.cell? ⟨w.heap.size, 1, none⟩ = some b ∧ w.heap.size < W.heap.size := by
  refine ⟨_, rfl, (Grew.refl _).alloc _, ?_, ?_, by simp⟩ <;> simp [go_sem]
theorem two_keep {W w' : World} {p : Nat} {a b : Value} (g : Grew W w') (hp : p < W.heap.size) (h1 : W.cell? ⟨p, 0, none⟩ = some a) (h2 : W.cell? ⟨p, 1, none⟩ = some b) : w'.cell? ⟨p, 0, none⟩ = some a ∧ w'.cell? ⟨p, 1, none⟩ = some b :=
  ⟨(g.cell hp).trans h1, (g.cell hp).trans h2⟩

def cmpInt (x y : Int) : Int := if y < x then 1 else if x < y then -1 else 0
theorem cmp_pos (x y : Int) (hx : 0 ≤ x) (hy : 0 ≤ y) : cmpOf x.natAbs y.natAbs = cmpInt x y := by
  unfold cmpOf cmpInt; (repeat' split) <;> omega
theorem cmp_neg (x y : Int) (hx : x < 0) (hy : y < 0) : cmpOf y.natAbs x.natAbs = cmpInt x y := by
  unfold cmpOf cmpInt; (repeat' split) <;> omega

set_option maxHeartbeats 1000000 in
theorem ref_Cmp (vx vy : Value) (x y : Int) (Lx Ly : Nat) (w : World) (hx : Num w vx x Lx) (hy : Num w vy y Ly) (hl : Lx ≤ 1000000) (kl : Ly ≤ 1000000) :
    Calls Try.prog 20 #[vx, vy] w fun e w' => e = .returned (.int .i64 (cmpInt x y)) ∧ Grew w w' := by
  obtain ⟨sx, xs, rfl, rx, wx, ex, lx⟩ := hx
  obtain ⟨sy, ys, rfl, ry, wy, ey, ly⟩ := hy
  obtain ⟨A, c, hA, _⟩ := rx.form
  obtain ⟨B, d, hB, _⟩ := ry.form
  subst hA hB
  have EX := Lib.hid ex; have EY := Lib.hid ey
  clear ex ey
  have g0 : Grew w ((w.alloc (.cells #[.bool (decide (x < 0)), .slice A xs.length c] 37)).alloc (.cells #[.bool (decide (y < 0)), .slice B ys.length d] 37)) := ((Grew.refl _).alloc _).alloc _
  by_cases hx : x < 0 <;> by_cases hy : y < 0
  · rw [decide_eq_true hx, decide_eq_true hy] at *
    rw [← cmp_neg x y hx hy, ← EX.out, ← EY.out]
    clear hx hy EX EY
    go_enter Try.func20, Try.ntmps20
    go_wp2_with (go_at_call 27; refine (ref_larger _ _ ys xs _ (ry.grew g0) (rx.grew g0) wy wx (by omega) (by omega)).mono ?_; rintro e w' ⟨rfl, rfl⟩)
    go_ret
    exact ⟨rfl, g0⟩
  · have e : cmpInt x y = -1 := by unfold cmpInt; rw [if_neg (by omega), if_pos (by omega)]
    rw [decide_eq_true hx, decide_eq_false hy] at *
    rw [e]
    clear hx hy EX EY e
    go_enter Try.func20, Try.ntmps20
    go_wp2_with fail
    go_ret
    exact ⟨rfl, g0⟩
  · have e : cmpInt x y = 1 := by unfold cmpInt; rw [if_pos (by omega)]
    rw [decide_eq_false hx, decide_eq_true hy] at *
    rw [e]
    clear hx hy EX EY e
    go_enter Try.func20, Try.ntmps20
    go_wp2_with fail
    go_ret
    exact ⟨rfl, g0⟩
  · rw [decide_eq_false hx, decide_eq_false hy] at *
    rw [← cmp_pos x y (by omega) (by omega), ← EX.out, ← EY.out]
    clear hx hy EX EY
    go_enter Try.func20, Try.ntmps20
    go_wp2_with (go_at_call 27; refine (ref_larger _ _ xs ys _ (rx.grew g0) (ry.grew g0) wx wy (by omega) (by omega)).mono ?_; rintro e w' ⟨rfl, rfl⟩)
    go_ret
    exact ⟨rfl, g0⟩
end Go.Proofs.Ytckkjccaomdnpaa

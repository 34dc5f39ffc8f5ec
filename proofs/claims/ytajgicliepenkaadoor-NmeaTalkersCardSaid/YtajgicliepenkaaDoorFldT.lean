/-
  The document's fields: numbers with places.
-/
import Derived.Test.YtajgicliepenkaaDoorFldS
import Derived.Deep.CutBlock
import Derived.Deep.DeepCutAuto
namespace Go.Proofs.YtajgicliepenkaaDoor
open Go.RowKit
set_option linter.unusedVariables false

theorem num_step (S : List Nat) (a m : Nat) (h : a ≤ m) : numOf S a (m + 1 - a) = numOf S a (m - a) * 10 + (wd S m - 48) := by
  rw [show m + 1 - a = (m - a) + 1 by omega, numOf, show a + (m - a) = m by omega]
theorem fixN_lt (S : List Nat) (p base : Nat) (hb : base < 10 ^ 9) (h : ∀ i, p < i → i < S.length → isDig (wd S i) = true) : ∀ k, fixN S p base k < 10 ^ (9 + k) := by
  intro k
  induction k with
  | zero => exact hb
  | succ k ih =>
    rw [fixN, show 9 + (k + 1) = (9 + k) + 1 by omega, Nat.pow_succ]
    split
    · rename_i hlt
      have h2 := h (p + (k + 1)) (by omega) hlt
      unfold isDig at h2
      simp at h2
      omega
    · omega
theorem point_pos (S : List Nat) (h : 0 < S.length) (h2 : wd S 0 ≠ 46) : 1 ≤ pointOf S := by
  cases S with
  | nil => simp at h
  | cons x S => simp [wd] at h2; simp [pointOf, h2]
/-- What a number with places is, once it is read and the places may be. -/
def fixedBody (S : List Nat) (P f : Nat) : Int × Nat :=
  if digs S f (pointOf S) = false ∨ (pointOf S < S.length ∧ digs S (pointOf S + 1) S.length = false) then (0, 5)
  else if 9 < pointOf S - f then (0, 9)
  else (if f = 1 then -(fixN S (pointOf S) (numOf S f (pointOf S - f)) P : Int) else (fixN S (pointOf S) (numOf S f (pointOf S - f)) P : Int), 0)
theorem fixed_body (S : List Nat) (P : Nat) (hr : readE S = 0) (hP : P ≤ 9) : fixedOf S (P : Nat) = fixedBody S P (fromOf S) := by
  unfold fixedOf fixedBody
  rw [if_neg (by omega), if_neg (by omega), Int.toNat_natCast]



end Go.Proofs.YtajgicliepenkaaDoor

/-
  The document's UBX messages: the same messages; a payload written.
-/
import Derived.Test.YtcdmbnbanopioaaUbrC
import Derived.Test.YtcdmbnbanopioaaUbxN
import Derived.OwnWalk
namespace Go.Proofs.Ytcdmbnbanopioaa
open Go.RowKit
set_option linter.unusedVariables false

-- [SAME
/-- The number whose bytes are laid. -/
def upZ (z : Int) (m : Nat) : Int := if z < 0 then z + ((256 ^ m : Nat) : Int) else z
theorem upZ_byte (z : Int) (m k : Nat) (hk : k < m) : upZ z m / ((256 ^ k : Nat) : Int) % 256 = (byteZ z k : Nat) := by
  have hpos : (0 : Int) < ((256 ^ k : Nat) : Int) := by have := Nat.pow_pos (n := k) (show 0 < 256 by decide); omega
  have e : ((256 ^ m : Nat) : Int) = ((256 ^ k : Nat) : Int) * (((256 ^ (m - k) : Nat)) : Int) := by
    rw [← Int.natCast_mul, ← Nat.pow_add, show k + (m - k) = m by omega]
  have e2 : 256 ^ (m - k) % 256 = 0 := by
    obtain ⟨j, hj⟩ : ∃ j, m - k = j + 1 := ⟨m - k - 1, by omega⟩
    rw [hj, Nat.pow_succ]; omega
  unfold byteZ upZ
  split
  · rw [e, Int.add_mul_ediv_left _ _ (by omega)]
    omega
  · omega
theorem upZ_fits {z : Int} {m : Nat} {neg : Bool} (hm : 0 < m) (h : fitsZ z (if neg then -(m : Int) else (m : Int)) = true) : 0 ≤ upZ z m ∧ upZ z m < ((256 ^ m : Nat) : Int) := by
  have he := pow_even m hm
  unfold fitsZ at h
  unfold upZ
  cases neg
  · simp only [Bool.false_eq_true, if_false] at h
    rw [if_neg (by omega)] at h
    simp only [decide_eq_true_eq, Int.natAbs_natCast] at h
    rw [if_neg (by omega)]
    exact h
  · simp only [if_true] at h
    rw [if_pos (by omega)] at h
    simp only [decide_eq_true_eq, Int.natAbs_neg, Int.natAbs_natCast] at h
    generalize 256 ^ m = q at *
    split <;> omega
theorem div_step (V : Int) (k : Nat) (h : 0 ≤ V) : (V / ((256 ^ k : Nat) : Int)).tdiv 256 = V / ((256 ^ (k + 1) : Nat) : Int) := by
  have hpos : (0 : Int) ≤ ((256 ^ k : Nat) : Int) := Int.natCast_nonneg _
  rw [Int.tdiv_eq_ediv_of_nonneg (Int.ediv_nonneg h hpos), Int.ediv_ediv_of_nonneg hpos, Nat.pow_succ, Int.natCast_mul]
  rfl
def PayR (r : List Nat × Nat) (w : World) (e : Ending) (w' : World) : Prop :=
  ∃ v, e = .returned (.tuple #[v, .int .i64 (r.2 : Nat)]) ∧ Row .u8 w' v r.1 ∧ (0 < r.1.length → ∀ x, v.ownBlock = some x → w.heap.size ≤ x) ∧ Grew w w'
theorem payR_no {er : Nat} {w w' : World} (g : Grew w w') : PayR ([], er) w (.returned (.tuple #[.slice none 0 0, .int .i64 (er : Nat)])) w' :=
  ⟨_, rfl, Row.nil _ _, (fun q => absurd q (by simp)), g⟩
-- PAYD]
end Go.Proofs.Ytcdmbnbanopioaa

/-
  UBX messages as plain lists: kinds, fields, values read and written. Nothing of the program.
-/
import Derived.Test.YtcdmbnbanopioaaRowZ
import Derived.Test.YtcdmbnbanopioaaSumM
namespace Go.Proofs.Ytcdmbnbanopioaa
open Go.RowKit
set_option linter.unusedVariables false

/-- A kind's length, and its fields: place, bytes (below 0: signed), side by side. -/
def ubxLay (c : Nat) : Nat × List Int :=
  if c = 263 then (92, [0, 4, 4, 2, 6, 1, 7, 1, 8, 1, 9, 1, 10, 1, 11, 1, 12, 4, 16, -4, 20, 1, 21, 1])
  else if c = 288 then (16, [0, 4, 4, -4, 8, 2, 10, -1, 11, 1, 12, 4])
  else if c = 289 then (20, [0, 4, 4, 4, 8, -4, 12, 2, 14, 1, 15, 1, 16, 1, 17, 1, 18, 1, 19, 1])
  else if c = 294 then (24, [0, 4, 4, 1, 8, 1, 9, -1, 10, 1, 11, -1, 12, -4, 16, 2, 18, 2, 23, 1])
  else if c = 3329 then (16, [0, 4, 4, 4, 8, -4, 12, 2, 14, 1, 15, 1])
  else if c = 1280 then (2, [0, 1, 1, 1])
  else if c = 1281 then (2, [0, 1, 1, 1])
  else if c = 1537 then (3, [0, 1, 1, 1, 2, 1])
  else if c = 1544 then (6, [0, 2, 2, 2, 4, 2])
  else if c = 1585 then (32, [0, 1, 4, -2, 8, 4, 16, 4, 28, 4])
  else (0, [])
/-- A number of bytes from a place on, the lowest one first. -/
def numLE (S : List Nat) (p : Nat) : Nat → Nat
  | 0 => 0
  | k + 1 => numLE S p k + wd S (p + k) * 256 ^ k
theorem numLE_lt (S : List Nat) (p : Nat) (hB : ∀ i, wd S i < 256) : ∀ k, numLE S p k < 256 ^ k
  | 0 => by simp [numLE]
  | k + 1 => by
    have h1 := numLE_lt S p hB k
    have h2 := hB (p + k)
    have h3 : wd S (p + k) * 256 ^ k ≤ 255 * 256 ^ k := Nat.mul_le_mul_right _ (by omega)
    rw [numLE, Nat.pow_succ]
    omega
/-- A field's value. -/
def getZ (S : List Nat) (p : Nat) (s : Int) : Int := if s < 0 ∧ 256 ^ s.natAbs / 2 ≤ numLE S p s.natAbs then (numLE S p s.natAbs : Int) - (256 ^ s.natAbs : Nat) else (numLE S p s.natAbs : Int)
/-- Does a value fit? -/
def fitsZ (v s : Int) : Bool := if s < 0 then decide (-((256 ^ s.natAbs / 2 : Nat) : Int) ≤ v ∧ v < ((256 ^ s.natAbs / 2 : Nat) : Int)) else decide (0 ≤ v ∧ v < ((256 ^ s.natAbs : Nat) : Int))
/-- The values of the first so many fields. -/
def valsTo (S : List Nat) (l : List Int) : Nat → List Int
  | 0 => []
  | k + 1 => valsTo S l k ++ [getZ S (zi l (2 * k)).toNat (zi l (2 * k + 1))]
theorem valsTo_length (S : List Nat) (l : List Int) : ∀ k, (valsTo S l k).length = k
  | 0 => rfl
  | k + 1 => by rw [valsTo, List.length_append, valsTo_length S l k]; rfl
/-- What a payload tells: the values, the error. -/
def ubxDec (c : Nat) (S : List Nat) : List Int × Nat :=
  if (ubxLay c).1 = 0 then ([], 7) else if S.length ≠ (ubxLay c).1 then ([], 5) else (valsTo S (ubxLay c).2 ((ubxLay c).2.length / 2), 0)
end Go.Proofs.Ytcdmbnbanopioaa

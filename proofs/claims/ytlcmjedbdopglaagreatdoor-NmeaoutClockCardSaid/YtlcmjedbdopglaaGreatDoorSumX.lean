/-
  Contracts of the document's checksums.
  The document's exclusive or, bit by bit.
-/
import Derived.Test.YtlcmjedbdopglaaGreatDoorSumM
import Derived.Test.YtlcmjedbdopglaaGreatDoorRefA
import Derived.Test.YtlcmjedbdopglaaGreatDoorBits
import Derived.LoopTactic
namespace Go.Proofs.YtlcmjedbdopglaaGreatDoor
open Go.RowKit
set_option linter.unusedVariables false

/- Contracts of the document's checksums. -/


theorem crc_xor (r : Nat) (hr : r < 4294967296) : Value.int IntKind.u32 (bits BinOp.xor IntKind.u32 ((r : Int) / 2) 3988292384) = Value.int IntKind.u32 ((r / 2 ^^^ poly : Nat) : Int) := by
  rw [show ((r : Int) / 2) = ((r / 2 : Nat) : Int) by omega, show (3988292384 : Int) = ((poly : Nat) : Int) from rfl, bits_xor_u32_n _ _ (by omega) (by decide)]

/- The document's exclusive or, bit by bit. -/
theorem div_byte (x P : Nat) (h : x < 256) : 0 ≤ (x : Int) / (P : Int) ∧ (x : Int) / (P : Int) ≤ 255 := by
  rw [← Int.natCast_ediv]
  have := Nat.div_le_self x P
  generalize x / P = y at this ⊢
  omega

end Go.Proofs.YtlcmjedbdopglaaGreatDoor

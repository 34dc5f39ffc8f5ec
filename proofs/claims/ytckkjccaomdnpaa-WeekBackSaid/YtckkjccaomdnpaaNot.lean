/-
  '^n' of integers.
-/
import Derived.Test.YtckkjccaomdnpaaGrew
namespace Go.Proofs.Ytckkjccaomdnpaa
open Go.RowKit
set_option linter.unusedVariables false

theorem ofInt64_toNat (n : Int) : ((BitVec.ofInt 64 n).toNat : Int) = n % 18446744073709551616 := by
  have := BitVec.toNat_ofInt (n := 64) n
  rw [this]; omega

/-- '^n' of an int64. -/
theorem not_i64 (n : Int) (h0 : -9223372036854775808 ≤ n) (h1 : n ≤ 9223372036854775807) : bits .xor .i64 (-1) n = -1 - n := by
  show IntKind.i64.wrap ((BitVec.ofInt 64 (-1) ^^^ BitVec.ofInt 64 n).toNat : Int) = _
  have h : BitVec.ofInt 64 (-1) = BitVec.allOnes 64 := by decide
  have e := ofInt64_toNat n
  rw [h, BitVec.allOnes_xor, BitVec.toNat_not, IntKind.wrap_i64]
  omega
/-- '^n' of a uint64. -/
theorem not_u64 (n : Int) (h0 : 0 ≤ n) (h1 : n ≤ 18446744073709551615) : bits .xor .u64 IntKind.u64.max n = 18446744073709551615 - n := by
  show IntKind.u64.wrap ((BitVec.ofInt 64 (IntKind.u64.max) ^^^ BitVec.ofInt 64 n).toNat : Int) = _
  have h : BitVec.ofInt 64 (IntKind.u64.max) = BitVec.allOnes 64 := by decide
  have e := ofInt64_toNat n
  rw [h, BitVec.allOnes_xor, BitVec.toNat_not, IntKind.wrap_u64]
  omega
end Go.Proofs.Ytckkjccaomdnpaa

/-
  The program's UBX fields: a value read out of a payload, a value written in one.
-/
import Derived.Test.YtjjpfbdcfifofaaUbrC
import Derived.Test.YtjjpfbdcfifofaaUbxN
namespace Go.Proofs.Ytjjpfbdcfifofaa
open Go.RowKit
set_option linter.unusedVariables false

theorem bits_or_i64 (a b : Nat) (ha : a < 9223372036854775808) (hb : b < 9223372036854775808) : bits .or .i64 (a : Int) (b : Int) = ((a ||| b : Nat) : Int) := by
  have ha' : a < 2 ^ 63 := ha
  have hb' : b < 2 ^ 63 := hb
  have hx : a ||| b < 2 ^ 63 := Nat.or_lt_two_pow ha' hb'
  have h1 : (BitVec.ofInt 64 (a : Int)).toNat = a := by rw [BitVec.ofInt_natCast, BitVec.toNat_ofNat]; exact Nat.mod_eq_of_lt (by omega)
  have h2 : (BitVec.ofInt 64 (b : Int)).toNat = b := by rw [BitVec.ofInt_natCast, BitVec.toNat_ofNat]; exact Nat.mod_eq_of_lt (by omega)
  show IntKind.i64.wrap ((BitVec.ofInt 64 (a : Int) ||| BitVec.ofInt 64 (b : Int)).toNat : Int) = _
  rw [BitVec.toNat_or, h1, h2]
  exact IntWalk.i64_in _ (by omega)
theorem or_byte (n x i : Nat) (hn : n < 256 ^ i) (hx : x < 256) (hi : i < 4) : bits .or .i64 (n : Int) (wrap64 ((x : Int) * 2 ^ (8 * i))) = ((n + x * 256 ^ i : Nat) : Int) := by
  have hp : 256 ^ i = 2 ^ (8 * i) := by rw [show (256 : Nat) = 2 ^ 8 from rfl, ← Nat.pow_mul]
  have hle : 2 ^ (8 * i) ≤ 2 ^ 24 := Nat.pow_le_pow_right (by decide) (by omega)
  have hxm : x * 2 ^ (8 * i) ≤ 255 * 2 ^ (8 * i) := Nat.mul_le_mul_right _ (by omega)
  rw [hp] at hn ⊢
  have hc : (x : Int) * 2 ^ (8 * i) = ((x * 2 ^ (8 * i) : Nat) : Int) := by rw [Int.natCast_mul, Int.natCast_pow]; rfl
  rw [hc, IntWalk.wrap64_in _ (by omega), bits_or_i64 _ _ (by omega) (by omega)]
  have := Nat.two_pow_add_eq_or_of_lt hn x
  rw [Nat.mul_comm] at this
  rw [Nat.or_comm, ← this]
  omega
theorem sign_byte (n m : Nat) (hm : 0 < m ∧ m ≤ 4) (hn : n < 256 ^ m) : wrap64 ((n : Int) * 2 ^ (64 - 8 * m)) / 2 ^ (64 - 8 * m) = if 256 ^ m / 2 ≤ n then (n : Int) - (256 ^ m : Nat) else (n : Int) := by
  unfold wrap64
  match m, hm with
  | 1, _ => simp only [Nat.reducePow, Nat.reduceMul, Nat.reduceSub, Nat.reduceDiv, Int.reducePow] at hn ⊢; split <;> omega
  | 2, _ => simp only [Nat.reducePow, Nat.reduceMul, Nat.reduceSub, Nat.reduceDiv, Int.reducePow] at hn ⊢; split <;> omega
  | 3, _ => simp only [Nat.reducePow, Nat.reduceMul, Nat.reduceSub, Nat.reduceDiv, Int.reducePow] at hn ⊢; split <;> omega
  | 4, _ => simp only [Nat.reducePow, Nat.reduceMul, Nat.reduceSub, Nat.reduceDiv, Int.reducePow] at hn ⊢; split <;> omega
-- [READ
theorem shr_byte (v : Int) (i : Nat) : v / 2 ^ (8 * i) % 256 = (byteZ v i : Nat) := by
  have hp : (2 : Int) ^ (8 * i) = ((256 ^ i : Nat) : Int) := by rw [show (256 : Nat) = 2 ^ 8 from rfl, ← Nat.pow_mul, Int.natCast_pow]; rfl
  rw [hp]
  unfold byteZ
  omega
end Go.Proofs.Ytjjpfbdcfifofaa

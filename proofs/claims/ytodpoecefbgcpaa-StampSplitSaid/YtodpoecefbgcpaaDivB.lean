/-
  bits.Div64 comes to the quotient and the rest, whatever the numbers are (the divisor above the upper half).
-/
import Derived.Test.YtodpoecefbgcpaaDivA
import Derived.Test.YtodpoecefbgcpaaGrew
import Derived.WalkSmall
import Derived.Lib.ItoaNum
namespace Go.Proofs.Ytodpoecefbgcpaa
open Go.RowKit
set_option linter.unusedVariables false

/-- What the quotient's numbers are, as natural numbers moved up by k places. -/
theorem div64_nums (hi lo y k : Nat) (h1 : hi < y) (h2 : y < 18446744073709551616) (h4 : lo < 18446744073709551616)
    (hk : k ≤ 63) (hlo : 9223372036854775808 ≤ y * 2 ^ k) (hhi : y * 2 ^ k < 18446744073709551616) :
    IntKind.u64.wrap ((y : Int) * 2 ^ ((k : Int)).toNat) = ((y * 2 ^ k : Nat) : Int) ∧
    bits BinOp.or IntKind.u64 (IntKind.u64.wrap ((hi : Int) * 2 ^ ((k : Int)).toNat)) ((lo : Int) / 2 ^ (64 - (k : Int)).toNat) = ((hi * 2 ^ k + lo / 2 ^ (64 - k) : Nat) : Int) ∧
    IntKind.u64.wrap ((lo : Int) * 2 ^ ((k : Int)).toNat) = ((lo * 2 ^ k % 18446744073709551616 : Nat) : Int) ∧
    hi * 2 ^ k + lo / 2 ^ (64 - k) < y * 2 ^ k ∧
    (hi * 18446744073709551616 + lo) * 2 ^ k = (hi * 2 ^ k + lo / 2 ^ (64 - k)) * 18446744073709551616 + lo * 2 ^ k % 18446744073709551616 := by
  have e64 : (64 - (k : Int)).toNat = 64 - k := by omega
  have ek : ((k : Int)).toNat = k := by omega
  have hp : 2 ^ (64 - k) * 2 ^ k = 18446744073709551616 := by rw [← Nat.pow_add, show 64 - k + k = 64 from by omega]
  have hpk : 0 < 2 ^ k := Nat.two_pow_pos k
  have hpk' : 0 < 2 ^ (64 - k) := Nat.two_pow_pos _
  have hdiv : lo / 2 ^ (64 - k) < 2 ^ k := Nat.div_lt_of_lt_mul (by rw [hp]; exact h4)
  have hy : (hi + 1) * 2 ^ k ≤ y * 2 ^ k := Nat.mul_le_mul_right _ h1
  rw [Nat.add_mul, Nat.one_mul] at hy
  have c1 : ((y : Int) * 2 ^ k) = ((y * 2 ^ k : Nat) : Int) := by simp
  have c2 : ((hi : Int) * 2 ^ k) = ((hi * 2 ^ k : Nat) : Int) := by simp
  have c3 : ((lo : Int) * 2 ^ k) = ((lo * 2 ^ k : Nat) : Int) := by simp
  have c4 : ((lo : Int) / 2 ^ (64 - k)) = ((lo / 2 ^ (64 - k) : Nat) : Int) := by simp
  have hm : lo * 2 ^ k = (lo / 2 ^ (64 - k)) * 18446744073709551616 + lo * 2 ^ k % 18446744073709551616 := by
    have := Nat.div_add_mod (lo * 2 ^ k) 18446744073709551616
    have e : lo * 2 ^ k / 18446744073709551616 = lo / 2 ^ (64 - k) := by rw [← hp, Nat.mul_div_mul_right _ _ hpk]
    rw [e] at this
    omega
  rw [e64, ek, c1, c2, c3, c4]
  refine ⟨?_, ?_, ?_, ?_, ?_⟩
  · rw [IntKind.wrap_u64]; omega
  · rw [IntWalk.u64_in _ (by omega), bits_or_u64_nat _ _ (by omega) (by omega)]
    congr 1
    rw [Nat.mul_comm hi, Nat.two_pow_add_eq_or_of_lt hdiv]
  · rw [IntKind.wrap_u64]; omega
  · omega
  · rw [Nat.add_mul, Nat.add_mul, Nat.mul_right_comm]
    generalize lo / 2 ^ (64 - k) = a at *
    generalize hi * 2 ^ k = b at *
    omega


theorem wrap_mod3 (a c d : Int) : IntKind.u64.wrap (IntKind.u64.wrap (IntKind.u64.wrap a + c) - IntKind.u64.wrap d) = (a + c - d) % 18446744073709551616 := by
  simp only [IntKind.wrap_u64]; omega

theorem wrap_rest (u d : Int) (h0 : 0 ≤ u) (h1 : u ≤ 18446744073709551615) (hd : 0 < d) : IntKind.u64.wrap (u - IntKind.u64.wrap (u / d * d)) = u % d := by
  have q := Int.mul_ediv_add_emod u d
  have m := Int.emod_nonneg u (show d ≠ 0 by omega)
  have m' := Int.mul_nonneg (show 0 ≤ d by omega) (Int.ediv_nonneg h0 (show 0 ≤ d by omega))
  rw [Int.mul_comm (u / d) d]
  simp only [IntKind.wrap_u64]
  omega

theorem div64_small (lo y : Int) (w : World) (h1 : 0 < y) (h2 : y ≤ 18446744073709551615) (h3 : 0 ≤ lo) (h4 : lo ≤ 18446744073709551615) :
    Calls Try.prog 50 #[.int .u64 0, .int .u64 lo, .int .u64 y] w fun e w' => e = .returned (.tuple #[.int .u64 (lo / y), .int .u64 (lo % y)]) ∧ Grew w w' := by
  have hy0 : (y == 0) = false := beq_eq_false_iff_ne.2 (by omega)
  go_enter Try.func50, Try.ntmps50
  go_wp2
  go_quiet (fail)
  go_wp2
  go_ret2
  exact ⟨rfl, (Grew.refl _).drewN _⟩

theorem div64 (hi lo y : Int) (w : World) (h0 : 0 ≤ hi) (h1 : hi < y) (h2 : y ≤ 18446744073709551615) (h3 : 0 ≤ lo) (h4 : lo ≤ 18446744073709551615) :
    Calls Try.prog 50 #[.int .u64 hi, .int .u64 lo, .int .u64 y] w fun e w' => e = .returned (.tuple #[.int .u64 ((hi * 18446744073709551616 + lo) / y), .int .u64 ((hi * 18446744073709551616 + lo) % y)]) ∧ Grew w w' := by
  by_cases hz : hi = 0
  · subst hz
    refine (div64_small lo y w (by omega) h2 h3 h4).mono ?_
    rintro e w' ⟨rfl, hb⟩
    exact ⟨by simp, hb⟩
  obtain ⟨hi, rfl⟩ := Int.eq_ofNat_of_zero_le h0
  obtain ⟨lo, rfl⟩ := Int.eq_ofNat_of_zero_le h3
  obtain ⟨y, rfl⟩ := Int.eq_ofNat_of_zero_le (show 0 ≤ y by omega)
  have hb := Lib.bitLenAux_bounds 64 y (by omega) (by omega)
  have hb64 : Lib.bitLen y ≤ 64 := Lib.bitLen_le y 64 (by omega) (by omega)
  have hbl : Lib.bitLen y = Lib.bitLenAux 64 y := rfl
  rw [← hbl] at hb
  obtain ⟨k, hk⟩ : ∃ k, 64 - Lib.bitLen y = k := ⟨_, rfl⟩
  have ek : Lib.bitLen y = 64 - k := by omega
  rw [ek] at hb
  have hp1 : 2 ^ (64 - k - 1) * 2 ^ k = 9223372036854775808 := by rw [← Nat.pow_add, show 64 - k - 1 + k = 63 from by omega]
  have hp2 : 2 ^ (64 - k) * 2 ^ k = 18446744073709551616 := by rw [← Nat.pow_add, show 64 - k + k = 64 from by omega]
  have hY1 : 9223372036854775808 ≤ y * 2 ^ k := by rw [← hp1]; exact Nat.mul_le_mul_right _ hb.2.1
  have hY2 : y * 2 ^ k < 18446744073709551616 := by rw [← hp2]; exact Nat.mul_lt_mul_of_pos_right hb.2.2 (Nat.two_pow_pos k)
  obtain ⟨n1, n2, n3, n4, n5⟩ := div64_nums hi lo y k (by omega) (by omega) (by omega) (by omega) hY1 hY2
  have hpk : 0 < 2 ^ k := Nat.two_pow_pos k
  have hS : (64 - (Lib.bitLen ((y : Int)).toNat : Int)) = (k : Int) := by simp; omega
  have hdu := div_up ((hi : Int) * 18446744073709551616 + lo) y ((2 ^ k : Nat) : Int) (by omega)
  have hN : ((hi : Int) * 18446744073709551616 + lo) * ((2 ^ k : Nat) : Int) = ((hi * 2 ^ k + lo / 2 ^ (64 - k) : Nat) : Int) * 18446744073709551616 + ((lo * 2 ^ k % 18446744073709551616 : Nat) : Int) := by
    have : (((hi * 18446744073709551616 + lo) * 2 ^ k : Nat) : Int) = (((hi * 2 ^ k + lo / 2 ^ (64 - k)) * 18446744073709551616 + lo * 2 ^ k % 18446744073709551616 : Nat) : Int) := by rw [n5]
    rw [Int.natCast_mul, Int.natCast_add, Int.natCast_mul, Int.natCast_add, Int.natCast_mul] at this
    exact this
  have hyk : (y : Int) * ((2 ^ k : Nat) : Int) = ((y * 2 ^ k : Nat) : Int) := (Int.natCast_mul _ _).symm
  have hpow : (2 : Int) ^ ((k : Int)).toNat = ((2 ^ k : Nat) : Int) := by simp
  rw [hN, hyk] at hdu
  rw [← hdu.1, ← hdu.2]
  have b10 : lo * 2 ^ k % 18446744073709551616 < 18446744073709551616 := Nat.mod_lt _ (by omega)
  generalize lo * 2 ^ k % 18446744073709551616 = u10 at *
  generalize hi * 2 ^ k + lo / 2 ^ (64 - k) = u32 at *
  generalize y * 2 ^ k = Y at *
  clear hN hyk hdu n5 hp1 hp2
  have k1 : Knuth (u32 : Int) ((u10 : Int) / 4294967296) ((Y : Int) / 4294967296) ((Y : Int) % 4294967296) Y (((u32 : Int) * 4294967296 + (u10 : Int) / 4294967296) / Y) :=
    ⟨by omega, by omega, by omega, by omega, by omega, by omega, by omega, by omega, by omega, rfl⟩
  have hQ1 := k1.Q0; have hQ1' := k1.Qb; have hr1 := k1.rest
  generalize hQ1e : ((u32 : Int) * 4294967296 + (u10 : Int) / 4294967296) / Y = Q1 at *
  generalize hu : (u32 : Int) * 4294967296 + (u10 : Int) / 4294967296 - Q1 * Y = u21 at *
  have k0 : Knuth u21 ((u10 : Int) % 4294967296) ((Y : Int) / 4294967296) ((Y : Int) % 4294967296) Y ((u21 * 4294967296 + (u10 : Int) % 4294967296) / Y) :=
    ⟨by omega, by omega, by omega, by omega, by omega, by omega, by omega, by omega, by omega, rfl⟩
  have hQ0 := k0.Q0; have hQ0' := k0.Qb; have hr0 := k0.rest
  generalize hQ0e : (u21 * 4294967296 + (u10 : Int) % 4294967296) / Y = Q0 at *
  have two := knuth_two (u1 := (u32 : Int)) (d1 := (u10 : Int) / 4294967296) (d0 := (u10 : Int) % 4294967296) k1 (by rw [hu]; exact k0)
  rw [hu, show (u10 : Int) / 4294967296 * 4294967296 + (u10 : Int) % 4294967296 = u10 by omega] at two
  rw [two.1, two.2]
  have q1 := Int.mul_ediv_add_emod (u32 : Int) ((Y : Int) / 4294967296)
  have q0 := Int.mul_ediv_add_emod u21 ((Y : Int) / 4294967296)
  have m1 := Int.emod_nonneg (u32 : Int) (show (Y : Int) / 4294967296 ≠ 0 by omega)
  have m1' := Int.emod_lt_of_pos (u32 : Int) (show 0 < (Y : Int) / 4294967296 by omega)
  have m0 := Int.emod_nonneg u21 (show (Y : Int) / 4294967296 ≠ 0 by omega)
  have m0' := Int.emod_lt_of_pos u21 (show 0 < (Y : Int) / 4294967296 by omega)
  rw [Int.mul_comm] at q1 q0
  have core := div64_core hi lo y k Y ((Y : Int) / 4294967296) ((Y : Int) % 4294967296) u32 u10 ((u10 : Int) / 4294967296) ((u10 : Int) % 4294967296) ((u32 : Int) % ((Y : Int) / 4294967296)) Q1 u21 (u21 % ((Y : Int) / 4294967296)) Q0 ((u21 * 4294967296 + (u10 : Int) % 4294967296 - Q0 * Y) / 2 ^ ((k : Int)).toNat) w
    (by omega) h1 h2 h3 h4 (by omega) (by omega) (Lib.hid hS) n1 rfl (Mul64.maskN Y hY2) n2 n3 rfl (Mul64.maskN u10 b10) (by omega) (by omega) (by omega) (by omega) (by omega) (by omega) (by omega) (by omega) (Lib.hid k1) (Lib.hid k0)
    (wrap_rest _ _ (by omega) (by omega) (by omega)) (Lib.hid q1) (by omega)
    (by rw [wrap_mod3]; omega) (wrap_rest _ _ (by omega) (by omega) (by omega)) (Lib.hid q0) (by omega)
    (by rw [wrap_mod3]; congr 1; omega)
  refine core.mono ?_
  rintro e w' ⟨rfl, rfl⟩
  exact ⟨by rw [hpow], Grew.refl _⟩
theorem ofInt64_toNat (n : Int) : ((BitVec.ofInt 64 n).toNat : Int) = n % 18446744073709551616 := by
  have := BitVec.toNat_ofInt (n := 64) n
  rw [this]; omega

/-- '^n' of an int64. -/
theorem not_i64 (n : Int) (h0 : -9223372036854775808 ≤ n) (h1 : n ≤ 9223372036854775807) : bits .xor .i64 (-1) n = -1 - n := by
  show IntKind.i64.wrap ((BitVec.ofInt 64 (-1) ^^^ BitVec.ofInt 64 n).toNat : Int) = _
  have h : BitVec.ofInt 64 (-1) = BitVec.allOnes 64 := by decide
  have e := ofInt64_toNat n
  rw [h, BitVec.allOnes_xor, BitVec.toNat_not, IntKind.wrap_i64]
  omega
/-- '^n' of a uint64. -/
theorem not_u64 (n : Int) (h0 : 0 ≤ n) (h1 : n ≤ 18446744073709551615) : bits .xor .u64 IntKind.u64.max n = 18446744073709551615 - n := by
  show IntKind.u64.wrap ((BitVec.ofInt 64 (IntKind.u64.max) ^^^ BitVec.ofInt 64 n).toNat : Int) = _
  have h : BitVec.ofInt 64 (IntKind.u64.max) = BitVec.allOnes 64 := by decide
  have e := ofInt64_toNat n
  rw [h, BitVec.allOnes_xor, BitVec.toNat_not, IntKind.wrap_u64]
  omega

end Go.Proofs.Ytodpoecefbgcpaa

/-
  The program's UBX fields: a value read out of a payload, a value written in one.
-/
import Derived.Test.YtcdmbnbanopioaaUbrC
import Derived.Test.YtcdmbnbanopioaaUbxN
namespace Go.Proofs.Ytcdmbnbanopioaa
open Go.RowKit
set_option linter.unusedVariables false

theorem bits_or_i64 (a b : Nat) (ha : a < 9223372036854775808) (hb : b < 9223372036854775808) : bits .or .i64 (a : Int) (b : Int) = ((a ||| b : Nat) : Int) := by
  have ha' : a < 2 ^ 63 := ha
  have hb' : b < 2 ^ 63 := hb
  have hx : a ||| b < 2 ^ 63 := Nat.or_lt_two_pow ha' hb'
  have h1 : (BitVec.ofInt 64 (a : Int)).toNat = a := by rw [BitVec.ofInt_natCast, BitVec.toNat_ofNat]; exact Nat.mod_eq_of_lt (by omega)
  have h2 : (BitVec.ofInt 64 (b : Int)).toNat = b := by rw [BitVec.ofInt_natCast, BitVec.toNat_ofNat]; exact Nat.mod_eq_of_lt (by omega)
  show IntKind.i64.wrap ((BitVec.ofInt 64 (a : Int) ||| BitVec.ofInt 64 (b : Int)).toNat : Int) = _
  rw [BitVec.toNat_or, h1, h2]
  exact IntWalk.i64_in _ (by omega)
theorem or_byte (n x i : Nat) (hn : n < 256 ^ i) (hx : x < 256) (hi : i < 4) : bits .or .i64 (n : Int) (wrap64 ((x : Int) * 2 ^ (8 * i))) = ((n + x * 256 ^ i : Nat) : Int) := by
  have hp : 256 ^ i = 2 ^ (8 * i) := by rw [show (256 : Nat) = 2 ^ 8 from rfl, ← Nat.pow_mul]
  have hle : 2 ^ (8 * i) ≤ 2 ^ 24 := Nat.pow_le_pow_right (by decide) (by omega)
  have hxm : x * 2 ^ (8 * i) ≤ 255 * 2 ^ (8 * i) := Nat.mul_le_mul_right _ (by omega)
  rw [hp] at hn ⊢
  have hc : (x : Int) * 2 ^ (8 * i) = ((x * 2 ^ (8 * i) : Nat) : Int) := by rw [Int.natCast_mul, Int.natCast_pow]; rfl
  rw [hc, IntWalk.wrap64_in _ (by omega), bits_or_i64 _ _ (by omega) (by omega)]
  have := Nat.two_pow_add_eq_or_of_lt hn x
  rw [Nat.mul_comm] at this
  rw [Nat.or_comm, ← this]
  omega
theorem sign_byte (n m : Nat) (hm : 0 < m ∧ m ≤ 4) (hn : n < 256 ^ m) : wrap64 ((n : Int) * 2 ^ (64 - 8 * m)) / 2 ^ (64 - 8 * m) = if 256 ^ m / 2 ≤ n then (n : Int) - (256 ^ m : Nat) else (n : Int) := by
  unfold wrap64
  match m, hm with
  | 1, _ => simp only [Nat.reducePow, Nat.reduceMul, Nat.reduceSub, Nat.reduceDiv, Int.reducePow] at hn ⊢; split <;> omega
  | 2, _ => simp only [Nat.reducePow, Nat.reduceMul, Nat.reduceSub, Nat.reduceDiv, Int.reducePow] at hn ⊢; split <;> omega
  | 3, _ => simp only [Nat.reducePow, Nat.reduceMul, Nat.reduceSub, Nat.reduceDiv, Int.reducePow] at hn ⊢; split <;> omega
  | 4, _ => simp only [Nat.reducePow, Nat.reduceMul, Nat.reduceSub, Nat.reduceDiv, Int.reducePow] at hn ⊢; split <;> omega
-- [READ
set_option maxRecDepth 100000 in
set_option maxHeartbeats 2000000 in
theorem ubp_read (v : Value) (S : List Nat) (p m : Nat) (neg : Bool) (w : World) (hr : Row .u8 w v S) (hB : Bytes S) (hp : p + m ≤ S.length) (hm : 0 < m ∧ m ≤ 4) (hl : S.length ≤ 100000) :
    Calls Try.prog 44 #[.agg #[.int .i64 (p : Nat), .int .i64 (m : Nat), .bool neg], v] w fun e w' => e = .returned (.int .i64 (getZ S p (if neg then -(m : Int) else (m : Int)))) ∧ Grew w w' := by
  have HN := Lib.hid (fun k => numLE_lt S p hB k)
  obtain ⟨A, c, rfl, hc, hrow⟩ := hr
  have HR := Lib.hid hrow
  have HB := Lib.hid hB
  clear hrow hB
  go_enter Try.func44, Try.ntmps44
  go_upto_region 1 with fail
  obtain ⟨W, hW, g0, T0⟩ := three_new w (.int .i64 (p : Nat)) (.int .i64 (m : Nat)) (.bool neg) 97
  rw [hW]
  clear hW
  have T1 := Lib.hid T0
  obtain ⟨tl, t0, t1, t2, f0, f1, f2⟩ := T0
  go_wp2_with fail
  go_loopg [5, 10] m (fun kx s t wr => ∃ i : Nat, i + kx = m ∧ s = .int .i64 (numLE S p i : Nat) ∧ t = .int .i64 i ∧ Hid (Grew W wr))
  case atStart => exact ⟨0, by omega, rfl, rfl, Lib.hid (Grew.refl _)⟩
  case round =>
    obtain ⟨i, hi, rfl, rfl, hg⟩ := hrel
    by_cases hlt : i < m
    · obtain ⟨b, o, rfl, hb, hcell⟩ := HR.out (by omega)
      have hx := ((g0.trans hg.out).cell (p := ⟨b, o + (p + i), none⟩) hb).trans (hcell (p + i) (by omega))
      obtain ⟨_, u0, u1, u2, _, _, _⟩ := T1.out.grew hg.out
      have hs := Lib.hid (or_byte (numLE S p i) (wd S (p + i)) i (HN.out i) (HB.out (p + i)) (by omega))
      have n2 := HB.out (p + i)
      have hs1 : Hid (numLE S p (i + 1) = numLE S p i + wd S (p + i) * 256 ^ i) := Lib.hid rfl
      generalize wd S (p + i) = x at *
      have e0 : IntKind.i64.wrap ((p : Int) + (i : Int)) = ((p + i : Nat) : Int) := by rw [IntWalk.i64_in _ (by omega)]; omega
      have b1 : (0 : Int) ≤ (p : Int) + i := by omega
      have b2 : (p : Int) + i < S.length := by omega
      clear hcell
      go_wp2_with fail
      rw [hs.out]
      go_roundg (m - (i + 1))
      case measure => omega
      case rel => exact ⟨i + 1, by omega, by rw [hs1.out], by go_num, hg⟩
    · obtain rfl : i = m := by omega
      obtain ⟨_, u0, u1, u2, _, _, _⟩ := T1.out.grew hg.out
      cases neg
      · go_wp2_with fail
        go_ret
        exact ⟨by simp [getZ_pos], g0.trans hg.out⟩
      · have hs := Lib.hid (sign_byte (numLE S p i) i hm (HN.out i))
        have hz := Lib.hid (getZ_neg S p i hm.1)
        go_wp2_with fail
        rw [hs.out, ← hz.out]
        go_ret
        exact ⟨by simp, g0.trans hg.out⟩
-- READ]
-- [WRITE
theorem shr_byte (v : Int) (i : Nat) : v / 2 ^ (8 * i) % 256 = (byteZ v i : Nat) := by
  have hp : (2 : Int) ^ (8 * i) = ((256 ^ i : Nat) : Int) := by rw [show (256 : Nat) = 2 ^ 8 from rfl, ← Nat.pow_mul, Int.natCast_pow]; rfl
  rw [hp]
  unfold byteZ
  omega
end Go.Proofs.Ytcdmbnbanopioaa

/-
  The program's SiRF fields: a value read out of a payload, a value written in one, highest byte first.
-/
import Derived.Test.YtcdmbnbanopioaaUbpR
import Derived.Test.YtcdmbnbanopioaaSrfM
namespace Go.Proofs.Ytcdmbnbanopioaa
open Go.RowKit
set_option linter.unusedVariables false

/-- The number that the k bytes from a place on make, highest byte first. -/
def numB (S : List Nat) (p : Nat) : Nat → Nat
  | 0 => 0
  | k + 1 => numB S p k * 256 + wd S (p + k)
theorem numB_lt (S : List Nat) (p : Nat) (hB : Bytes S) : ∀ k, numB S p k < 256 ^ k
  | 0 => by simp [numB]
  | k + 1 => by
    have := numB_lt S p hB k
    have := hB (p + k)
    rw [numB, Nat.pow_succ]
    omega
theorem numB_head (S : List Nat) (p : Nat) : ∀ k, numB S p (k + 1) = wd S p * 256 ^ k + numB S (p + 1) k
  | 0 => by simp [numB]
  | k + 1 => by
    rw [numB, numB_head S p k, numB, Nat.pow_succ, show p + (k + 1) = p + 1 + k by omega]
    rw [show wd S p * (256 ^ k * 256) = wd S p * 256 ^ k * 256 from (Nat.mul_assoc _ _ _).symm]
    generalize wd S p * 256 ^ k = x
    omega
theorem numB_turn (T S : List Nat) : ∀ (m p : Nat), (∀ j, j < m → wd T j = wd S (p + (m - 1 - j))) → numLE T 0 m = numB S p m
  | 0, _, _ => rfl
  | m + 1, p, h => by
    have e : numLE T 0 (m + 1) = numLE T 0 m + wd T (0 + m) * 256 ^ m := rfl
    rw [e, numB_head, numB_turn T S m (p + 1) (fun j hj => by rw [h j (by omega)]; congr 1; omega), Nat.zero_add, h m (by omega), show p + (m + 1 - 1 - m) = p by omega]
    omega
theorem numB_is (S : List Nat) (p m : Nat) : numLE (turnTo S p m m) 0 m = numB S p m := numB_turn _ _ _ _ (fun j hj => turnTo_wd _ _ _ _ _ hj)
theorem shl_byte (n x : Nat) (k : Nat) (hk : k < 4) (hn : n < 256 ^ k) (hx : x < 256) : bits .or .i64 (wrap64 ((n : Int) * 256)) (x : Int) = ((n * 256 + x : Nat) : Int) := by
  have hp : 256 ^ k ≤ 256 ^ 3 := Nat.pow_le_pow_right (by decide) (by omega)
  have hp' : (256 : Nat) ^ 3 = 16777216 := by decide
  have e : (n : Int) * 256 = ((n * 256 : Nat) : Int) := by omega
  rw [e, IntWalk.wrap64_in _ (by omega), bits_or_i64 _ _ (by omega) (by omega)]
  have h : x < 2 ^ 8 := hx
  have := Nat.two_pow_add_eq_or_of_lt h n
  rw [show n * 256 = 2 ^ 8 * n by omega, ← this]
-- [READ
set_option maxRecDepth 100000 in
set_option maxHeartbeats 2000000 in
theorem srp_read (v : Value) (S : List Nat) (p m : Nat) (neg : Bool) (w : World) (hr : Row .u8 w v S) (hB : Bytes S) (hp : p + m ≤ S.length) (hm : 0 < m ∧ m ≤ 4) (hl : S.length ≤ 100000) :
    Calls Try.prog 46 #[.agg #[.int .i64 (p : Nat), .int .i64 (m : Nat), .bool neg], v] w fun e w' => e = .returned (.int .i64 (getB S p (if neg then -(m : Int) else (m : Int)))) ∧ Grew w w' := by
  have HN := Lib.hid (fun k => numB_lt S p hB k)
  have HT := Lib.hid (turnTo_bytes hB p m m)
  obtain ⟨A, c, rfl, hc, hrow⟩ := hr
  obtain ⟨b, o, rfl, hb, hcell⟩ := hrow (by omega)
  have HR := Lib.hid hcell
  have HB := Lib.hid hB
  clear hrow hcell hB
  have e0 : IntKind.i64.wrap ((p : Int) + (m : Int)) = ((p + m : Nat) : Int) := by rw [IntWalk.i64_in _ (by omega)]; omega
  have b1 : p ≤ p + m := by omega
  have b2 : p + m ≤ c := by omega
  have b3 : ¬ c = p := by omega
  have b4 : p + m - p = m := by omega
  go_enter Try.func46, Try.ntmps46
  go_upto_region 1 with fail
  obtain ⟨W, hW, g0, T0⟩ := three_new w (.int .i64 (p : Nat)) (.int .i64 (m : Nat)) (.bool neg) 106
  rw [hW]
  clear hW
  have T1 := Lib.hid T0
  obtain ⟨tl, t0, t1, t2, f0, f1, f2⟩ := T0
  go_wp2_with fail
  rw [b4]
  go_loopg [5, 19] m (fun kx s t wr => ∃ i : Nat, i + kx = m ∧ s = .int .i64 (numB S p i : Nat) ∧ t = .int .i64 i ∧ Hid (Grew W wr))
  case atStart => exact ⟨0, by omega, rfl, rfl, Lib.hid (Grew.refl _)⟩
  case round =>
    obtain ⟨i, hi, rfl, rfl, hg⟩ := hrel
    by_cases hlt : i < m
    · have hx := ((g0.trans hg.out).cell (p := ⟨b, o + (p + i), none⟩) hb).trans (HR.out (p + i) (by omega))
      rw [← Nat.add_assoc] at hx
      have hs := Lib.hid (shl_byte (numB S p i) (wd S (p + i)) i (by omega) (HN.out i) (HB.out (p + i)))
      have n2 := HB.out (p + i)
      have hs1 : Hid (numB S p (i + 1) = numB S p i * 256 + wd S (p + i)) := Lib.hid rfl
      generalize wd S (p + i) = x at *
      generalize numB S p i = N at *
      go_wp2_with fail
      rw [hs.out]
      go_roundg (m - (i + 1))
      case measure => omega
      case rel => exact ⟨i + 1, by omega, by rw [hs1.out], by go_num, hg⟩
    · obtain rfl : i = m := by omega
      obtain ⟨_, u0, u1, u2, _, _, _⟩ := T1.out.grew hg.out
      have hnl := Lib.hid (numB_is S p i)
      cases neg
      · go_wp2_with fail
        go_ret
        exact ⟨by simp [getB, getZ_pos, hnl.out], g0.trans hg.out⟩
      · have hs := Lib.hid (sign_byte (numB S p i) i hm (HN.out i))
        have hz := Lib.hid (getZ_neg (turnTo S p i i) 0 i hm.1)
        rw [hnl.out] at hz
        have hgb : Hid (getB S p (-(i : Int)) = getZ (turnTo S p i i) 0 (-(i : Int))) := Lib.hid (by unfold getB; rw [show (-(i : Int)).natAbs = i by omega])
        go_wp2_with fail
        rw [hs.out, ← hz.out, ← hgb.out]
        go_ret
        exact ⟨by simp, g0.trans hg.out⟩
-- READ]
-- [WRITE
theorem shr_step (v : Int) (k : Nat) : v / ((256 ^ k : Nat) : Int) / 256 = v / ((256 ^ (k + 1) : Nat) : Int) := by
  rw [Int.ediv_ediv_of_nonneg (Int.natCast_nonneg _), Nat.pow_succ, Int.natCast_mul]
  rfl
theorem shr_in (v : Int) (k : Nat) (hv : -9223372036854775808 ≤ v ∧ v ≤ 9223372036854775807) : -9223372036854775808 ≤ v / ((256 ^ k : Nat) : Int) ∧ v / ((256 ^ k : Nat) : Int) ≤ 9223372036854775807 := by
  have hp : 0 < 256 ^ k := Nat.pow_pos (by decide)
  generalize 256 ^ k = q at *
  constructor
  · by_cases h : 0 ≤ v
    · have := Int.ediv_nonneg h (show (0 : Int) ≤ q by omega); omega
    · have := Int.le_ediv_of_mul_le (show (0 : Int) < q by omega) (a := -9223372036854775808) (b := v) (by
        have : (9223372036854775808 : Int) * 1 ≤ 9223372036854775808 * q := Int.mul_le_mul_of_nonneg_left (by omega) (by omega)
        omega)
      exact this
  · by_cases h : 0 ≤ v
    · exact Int.le_trans (Int.ediv_le_self _ h) hv.2
    · have := Int.ediv_neg_of_neg_of_pos (show v < 0 by omega) (show (0 : Int) < q by omega); omega
end Go.Proofs.Ytcdmbnbanopioaa

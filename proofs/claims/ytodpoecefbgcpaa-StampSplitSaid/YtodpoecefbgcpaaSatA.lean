/-
  Contracts of package sat.
-/
import Derived.Test.YtodpoecefbgcpaaDivB
import Derived.Laws.Externs
namespace Go.Proofs.Ytodpoecefbgcpaa
open Go.RowKit
set_option linter.unusedVariables false

/-- A product over a divisor, rounded down, rounded up, held; 0 of a divisor that is not above 0. -/
def downOf (a b d : Int) : Int := if d ≤ 0 then 0 else held (a * b / d)
def upOf (a b d : Int) : Int := if d ≤ 0 then 0 else held ((a * b + (d - 1)) / d)
theorem downOf_le (a b d : Int) : -9223372036854775808 ≤ downOf a b d ∧ downOf a b d ≤ 9223372036854775807 := by
  unfold downOf; split
  · omega
  · exact held_le _
theorem upOf_le (a b d : Int) : -9223372036854775808 ≤ upOf a b d ∧ upOf a b d ≤ 9223372036854775807 := by
  unfold upOf; split
  · omega
  · exact held_le _


set_option maxHeartbeats 400000 in
theorem sat_Add (a b : Int) (w : World) (ha : -9223372036854775808 ≤ a ∧ a ≤ 9223372036854775807) (hb : -9223372036854775808 ≤ b ∧ b ≤ 9223372036854775807) :
    Calls Try.prog 45 #[.int .i64 a, .int .i64 b] w fun e w' => e = .returned (.int .i64 (held (a + b))) ∧ w = w' := by
  go_enter Try.func45, Try.ntmps45
  go_wp2
  all_goals
    go_ret
    exact ⟨ret_int (by first | (rw [held_in _ (by omega) (by omega)]) | (rw [held_hi _ (by omega)]) | (rw [held_lo _ (by omega)])), rfl⟩

set_option maxHeartbeats 400000 in
theorem sat_Sub (a b : Int) (w : World) (ha : -9223372036854775808 ≤ a ∧ a ≤ 9223372036854775807) (hb : -9223372036854775808 ≤ b ∧ b ≤ 9223372036854775807) :
    Calls Try.prog 44 #[.int .i64 a, .int .i64 b] w fun e w' => e = .returned (.int .i64 (held (a - b))) ∧ w = w' := by
  go_enter Try.func44, Try.ntmps44
  go_wp2
  all_goals
    go_ret
    exact ⟨ret_int (by first | (rw [held_in _ (by omega) (by omega)]) | (rw [held_hi _ (by omega)]) | (rw [held_lo _ (by omega)])), rfl⟩



set_option maxHeartbeats 400000 in
theorem sat_overUnsigned (high low d : Int) (w : World) (h0 : 0 ≤ high ∧ high ≤ 18446744073709551615) (h1 : 0 ≤ low ∧ low ≤ 18446744073709551615) (h2 : 1 ≤ d ∧ d ≤ 9223372036854775807) :
    Calls Try.prog 48 #[.int .u64 high, .int .u64 low, .int .u64 d] w fun e w' => e = .returned (.int .i64 (held ((high * 18446744073709551616 + low) / d))) ∧ Grew w w' := by
  by_cases hd : d ≤ high
  · have hq : 18446744073709551616 ≤ (high * 18446744073709551616 + low) / d := (Int.le_ediv_iff_mul_le (by omega)).2 (by omega)
    go_enter Try.func48, Try.ntmps48
    go_wp2
    go_ret
    exact ⟨ret_int (by rw [held_hi _ (by omega)]), Grew.refl _⟩
  · have hq : 0 ≤ (high * 18446744073709551616 + low) / d := Int.ediv_nonneg (by omega) (by omega)
    have hq' : (high * 18446744073709551616 + low) / d < 18446744073709551616 := Int.ediv_lt_of_lt_mul (by omega) (by omega)
    go_enter Try.func48, Try.ntmps48
    go_wp2_with (go_at_call 50; refine (div64 _ _ _ _ h0.1 (by omega) (by omega) h1.1 h1.2).mono ?_; rintro e w' ⟨rfl, hb⟩; generalize hqe : (high * 18446744073709551616 + low) / d = q at hq hq' ⊢; have Hq := Lib.hid hqe; clear hqe; generalize (high * 18446744073709551616 + low) % d = r)
    go_ret
    exact ⟨ret_int (by rw [Hq.out]; by_cases h : q ≤ 9223372036854775807 <;> first | rw [held_in _ (by omega) h, Int.min_eq_left h] | rw [held_hi _ (by omega), Int.min_eq_right (by omega)]), hb⟩

theorem held_not (n : Int) : -1 - held (-n - 1) = held n := by
  unfold held; split <;> (try split) <;> (try split) <;> omega

theorem fdiv_not (n d : Int) (hd : 0 < d) : (-n - 1) / d = -(n / d) - 1 := by
  have h1 := Int.mul_ediv_add_emod n d
  have h2 := Int.emod_nonneg n (show d ≠ 0 by omega)
  have h3 := Int.emod_lt_of_pos n hd
  have e : -n - 1 = (d - 1 - n % d) + d * (-(n / d) - 1) := by rw [Int.mul_sub, Int.mul_neg]; omega
  rw [e, Int.add_mul_ediv_left _ _ (by omega), Int.ediv_eq_zero_of_lt (by omega) (by omega)]
  omega

set_option maxHeartbeats 400000 in
theorem sat_over (high low d : Int) (w : World) (h0 : -9223372036854775808 ≤ high ∧ high ≤ 9223372036854775807) (h1 : 0 ≤ low ∧ low ≤ 18446744073709551615) (h2 : 1 ≤ d ∧ d ≤ 9223372036854775807) :
    Calls Try.prog 32 #[.int .i64 high, .int .u64 low, .int .u64 d] w fun e w' => e = .returned (.int .i64 (held ((high * 18446744073709551616 + low) / d))) ∧ Grew w w' := by
  by_cases hn : high < 0
  · have s1 : IntKind.i64.signed = true := rfl
    have s2 : IntKind.u64.signed = false := rfl
    have n1 := not_i64 high h0.1 h0.2
    have n2 := not_u64 low h1.1 h1.2
    have n3 : bits .xor .i64 (-1) (held (((-1 - high) * 18446744073709551616 + (18446744073709551615 - low)) / d)) = held ((high * 18446744073709551616 + low) / d) := by
      have hb := held_le (((-1 - high) * 18446744073709551616 + (18446744073709551615 - low)) / d)
      rw [not_i64 _ hb.1 hb.2, show (-1 - high) * 18446744073709551616 + (18446744073709551615 - low) = -(high * 18446744073709551616 + low) - 1 by omega, fdiv_not _ _ (by omega), held_not]
    go_enter Try.func32, Try.ntmps32
    go_wp2_with (go_at_call 48; refine (sat_overUnsigned _ _ _ _ (by omega) (by omega) h2).mono ?_; rintro e w' ⟨rfl, hb⟩)
    all_goals go_ret
    all_goals exact ⟨rfl, hb⟩
  · go_enter Try.func32, Try.ntmps32
    go_wp2_with (go_at_call 48; refine (sat_overUnsigned _ _ _ _ (by omega) h1 h2).mono ?_; rintro e w' ⟨rfl, hb⟩)
    go_ret
    exact ⟨rfl, hb⟩

/-- The upper half of a product, out of the halves of the product without signs. -/
theorem high_of (a b ua ub : Int) (ha : -9223372036854775808 ≤ a ∧ a ≤ 9223372036854775807) (hb : -9223372036854775808 ≤ b ∧ b ≤ 9223372036854775807)
    (ea : ua = if a < 0 then a + 18446744073709551616 else a) (eb : ub = if b < 0 then b + 18446744073709551616 else b) :
    a * b / 18446744073709551616 = ua * ub / 18446744073709551616 - (if a < 0 then b else 0) - (if b < 0 then a else 0) - (if a < 0 ∧ b < 0 then 18446744073709551616 else 0) ∧
    a * b % 18446744073709551616 = ua * ub % 18446744073709551616 ∧ -4611686018427387904 ≤ a * b / 18446744073709551616 ∧ a * b / 18446744073709551616 ≤ 4611686018427387904 := by
  have hab : a * b ≤ 9223372036854775808 * 9223372036854775808 ∧ -(9223372036854775808 * 9223372036854775808) ≤ a * b := by
    have h1 : (a * b).natAbs ≤ 9223372036854775808 * 9223372036854775808 := by
      rw [Int.natAbs_mul]; exact Nat.mul_le_mul (by omega) (by omega)
    omega
  refine ⟨?_, ?_, by omega, by omega⟩
  · by_cases h1 : a < 0 <;> by_cases h2 : b < 0 <;> simp only [h1, h2, if_true, if_false, and_self, and_true, and_false] at * <;> subst ea eb
    · rw [Int.add_mul, Int.mul_add]
      omega
    · rw [Int.add_mul]; omega
    · rw [Int.mul_add]; omega
    · omega
  · by_cases h1 : a < 0 <;> by_cases h2 : b < 0 <;> simp only [h1, h2, if_true, if_false] at * <;> subst ea eb
    · rw [Int.add_mul, Int.mul_add]
      omega
    · rw [Int.add_mul]; omega
    · rw [Int.mul_add]; omega
    · rfl

def highOf (H a b : Int) : Int := IntKind.i64.wrap (H - (if a < 0 then b else 0) - (if b < 0 then a else 0))

theorem sat_product1 (p0 p1 p2 : Addr) (H a b : Int) (w : World) (hH : 0 ≤ H ∧ H ≤ 18446744073709551615) (ha : -9223372036854775808 ≤ a ∧ a ≤ 9223372036854775807) (hb : -9223372036854775808 ≤ b ∧ b ≤ 9223372036854775807)
    (c0 : w.cell? p0 = some (.int .u64 H)) (c1 : w.cell? p1 = some (.int .i64 a)) (c2 : w.cell? p2 = some (.int .i64 b)) :
    Calls Try.prog 47 #[.pointer (some p0), .pointer (some p1), .pointer (some p2)] w fun e w' => e = .returned (.int .i64 (highOf H a b)) ∧ w = w' := by
  go_enter Try.func47, Try.ntmps47
  go_wp2
  all_goals
    go_ret
    exact ⟨ret_int (by unfold highOf; simp only [IntKind.wrap_i64, wrap64]; omega), rfl⟩

theorem highOf_eq (a b : Int) (ua ub : Nat) (h : (a * b / 18446744073709551616 = (ua : Int) * ub / 18446744073709551616 - (if a < 0 then b else 0) - (if b < 0 then a else 0) - (if a < 0 ∧ b < 0 then 18446744073709551616 else 0) ∧
    a * b % 18446744073709551616 = (ua : Int) * ub % 18446744073709551616 ∧ -4611686018427387904 ≤ a * b / 18446744073709551616 ∧ a * b / 18446744073709551616 ≤ 4611686018427387904)) :
    highOf ((ua * ub / 18446744073709551616 : Nat) : Int) a b = a * b / 18446744073709551616 ∧ ((ua * ub % 18446744073709551616 : Nat) : Int) = a * b % 18446744073709551616 := by
  have e1 : ((ua * ub / 18446744073709551616 : Nat) : Int) = (ua : Int) * ub / 18446744073709551616 := by rw [← Int.natCast_mul]; omega
  have e2 : ((ua * ub % 18446744073709551616 : Nat) : Int) = (ua : Int) * ub % 18446744073709551616 := by rw [← Int.natCast_mul]; omega
  rw [e1, e2]
  obtain ⟨h1, h2, h3, h4⟩ := h
  refine ⟨?_, h2.symm⟩
  unfold highOf
  rw [IntKind.wrap_i64]
  generalize a * b / 18446744073709551616 = x at *
  generalize (ua : Int) * ub / 18446744073709551616 = y at *
  by_cases g1 : a < 0 <;> by_cases g2 : b < 0 <;> simp only [g1, g2, if_true, if_false, and_self, and_true, and_false] at * <;> omega

set_option maxHeartbeats 400000 in
theorem sat_product (a b : Int) (w : World) (ha : -9223372036854775808 ≤ a ∧ a ≤ 9223372036854775807) (hb : -9223372036854775808 ≤ b ∧ b ≤ 9223372036854775807) :
    Calls Try.prog 31 #[.int .i64 a, .int .i64 b] w fun e w' => e = .returned (.tuple #[.int .i64 (a * b / 18446744073709551616), .int .u64 (a * b % 18446744073709551616)]) ∧ Grew w w' := by
  obtain ⟨ua, hua⟩ : ∃ n : Nat, IntKind.u64.wrap a = n := ⟨(IntKind.u64.wrap a).toNat, by rw [IntKind.wrap_u64]; omega⟩
  obtain ⟨ub, hub⟩ : ∃ n : Nat, IntKind.u64.wrap b = n := ⟨(IntKind.u64.wrap b).toNat, by rw [IntKind.wrap_u64]; omega⟩
  have ea : (ua : Int) = if a < 0 then a + 18446744073709551616 else a := by rw [← hua, IntKind.wrap_u64]; split <;> omega
  have eb : (ub : Int) = if b < 0 then b + 18446744073709551616 else b := by rw [← hub, IntKind.wrap_u64]; split <;> omega
  have la : ua < 18446744073709551616 := by split at ea <;> omega
  have lb : ub < 18446744073709551616 := by split at eb <;> omega
  have H := Lib.hid (highOf_eq a b ua ub (high_of a b ua ub ha hb ea eb))
  have hHI : ua * ub / 18446744073709551616 < 18446744073709551616 := Nat.div_lt_of_lt_mul (Nat.mul_lt_mul'' la lb)
  clear ea eb
  go_enter Try.func31, Try.ntmps31
  go_wp2_with (first | (go_at_call 46; refine (Try.bits_Mul64 ua ub la lb _).mono ?_; rintro e w' ⟨rfl, rfl⟩; generalize hH : ua * ub / 18446744073709551616 = HI at hHI ⊢; generalize hL : ua * ub % 18446744073709551616 = LO; have HH := Lib.hid hH; have HL := Lib.hid hL; clear hH hL) | (go_at_call 47; refine (sat_product1 _ _ _ HI a b _ (by omega) ha hb (by simp [go_sem]) (by simp [go_sem]) (by simp [go_sem])).mono ?_; rintro e w' ⟨rfl, rfl⟩))
  go_ret2
  refine ⟨?_, (((Grew.refl _).alloc _).alloc _).alloc _⟩
  have h := H.out
  rw [HH.out, HL.out] at h
  rw [← h.1, ← h.2]
  rfl

set_option maxHeartbeats 400000 in
theorem sat_Down (a b d : Int) (w : World) (ha : -9223372036854775808 ≤ a ∧ a ≤ 9223372036854775807) (hb : -9223372036854775808 ≤ b ∧ b ≤ 9223372036854775807) (hd : -9223372036854775808 ≤ d ∧ d ≤ 9223372036854775807) :
    Calls Try.prog 16 #[.int .i64 a, .int .i64 b, .int .i64 d] w fun e w' => e = .returned (.int .i64 (downOf a b d)) ∧ Grew w w' := by
  by_cases hz : d ≤ 0
  · go_enter Try.func16, Try.ntmps16
    go_wp2
    go_ret
    exact ⟨ret_int (by first | rw [downOf, if_pos hz] | rw [upOf, if_pos hz]), Grew.refl _⟩
  · have hp := high_of a b _ _ ha hb rfl rfl
    obtain ⟨-, -, hp1, hp2⟩ := hp
    have hm := Int.emod_nonneg (a * b) (show (18446744073709551616 : Int) ≠ 0 by omega)
    have hm' := Int.emod_lt_of_pos (a * b) (show (0 : Int) < 18446744073709551616 by omega)
    have hE := Lib.hid (Int.mul_ediv_add_emod (a * b) 18446744073709551616)
    go_enter Try.func16, Try.ntmps16
    go_wp2_with (first | (go_at_call 31; refine (sat_product a b _ ha hb).mono ?_; rintro e w' ⟨rfl, hb1⟩; generalize hH : a * b / 18446744073709551616 = HI at hp1 hp2 ⊢; generalize hL : a * b % 18446744073709551616 = LO at hm hm' ⊢; have HH := Lib.hid hH; have HL := Lib.hid hL; clear hH hL) | (go_at_call 32; refine (sat_over HI LO d _ (by omega) (by omega) (by omega)).mono ?_; rintro e w2 ⟨rfl, hb2⟩))
    go_ret
    refine ⟨ret_int ?_, hb1.trans hb2⟩
    have h := hE.out
    rw [HH.out, HL.out, Int.mul_comm] at h
    rw [h, downOf, if_neg (by omega)]


theorem run_Add64 (x y : Int) (w : World) (hx : 0 ≤ x) (hy : 0 ≤ y) :
    Sem.run Try.prog (callFunc 41 #[.int .u64 x, .int .u64 y, .int .u64 0]) w = .ok (.value (.tuple #[.int .u64 ((x + y) % 18446744073709551616), .int .u64 ((x + y) / 18446744073709551616)])) w := by
  have h := run_add64 (P := Try.prog) x y 0 hx hy (by omega) (by omega) w
  rw [run_callFunc_extern Try.func41 (by kernel_rfl) (by kernel_rfl) (by kernel_rfl) (e := add64Entry) (by kernel_rfl), h]
  simp only [Result.andThen, Int.add_zero]

set_option maxHeartbeats 400000 in
theorem sat_Up (a b d : Int) (w : World) (ha : -9223372036854775808 ≤ a ∧ a ≤ 9223372036854775807) (hb : -9223372036854775808 ≤ b ∧ b ≤ 9223372036854775807) (hd : -9223372036854775808 ≤ d ∧ d ≤ 9223372036854775807) :
    Calls Try.prog 24 #[.int .i64 a, .int .i64 b, .int .i64 d] w fun e w' => e = .returned (.int .i64 (upOf a b d)) ∧ Grew w w' := by
  by_cases hz : d ≤ 0
  · go_enter Try.func24, Try.ntmps24
    go_wp2
    go_ret
    exact ⟨ret_int (by first | rw [downOf, if_pos hz] | rw [upOf, if_pos hz]), Grew.refl _⟩
  · have hp := high_of a b _ _ ha hb rfl rfl
    obtain ⟨-, -, hp1, hp2⟩ := hp
    have hm := Int.emod_nonneg (a * b) (show (18446744073709551616 : Int) ≠ 0 by omega)
    have hm' := Int.emod_lt_of_pos (a * b) (show (0 : Int) < 18446744073709551616 by omega)
    have hE := Lib.hid (Int.mul_ediv_add_emod (a * b) 18446744073709551616)
    go_enter Try.func24, Try.ntmps24
    go_wp2_with (first | (go_at_call 31; refine (sat_product a b _ ha hb).mono ?_; rintro e w' ⟨rfl, hb1⟩; generalize hH : a * b / 18446744073709551616 = HI at hp1 hp2 ⊢; generalize hL : a * b % 18446744073709551616 = LO at hm hm' ⊢; have HH := Lib.hid hH; have HL := Lib.hid hL; clear hH hL; have hadd := fun w => run_Add64 LO (d - 1) w (by omega) (by omega)) | (go_at_call 32; refine (sat_over _ _ d _ (by omega) (by omega) (by omega)).mono ?_; rintro e w2 ⟨rfl, hb2⟩))
    go_ret
    refine ⟨ret_int ?_, hb1.trans hb2⟩
    have h := hE.out
    rw [HH.out, HL.out, Int.mul_comm] at h
    rw [upOf, if_neg (by omega)]
    congr 2
    omega
end Go.Proofs.Ytodpoecefbgcpaa

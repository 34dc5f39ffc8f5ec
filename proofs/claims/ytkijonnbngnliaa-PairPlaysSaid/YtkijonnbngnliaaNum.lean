/-
  Plain numbers: what 'held' is, and that the long division of 128 bits by 64 comes to the quotient. Nothing of the program.
-/
namespace Go.Proofs.Ytkijonnbngnliaa

/-- The nearest number of 64 bits with a sign. -/
def held (n : Int) : Int := if n < -9223372036854775808 then -9223372036854775808 else if 9223372036854775807 < n then 9223372036854775807 else n

theorem held_le (n : Int) : -9223372036854775808 ≤ held n ∧ held n ≤ 9223372036854775807 := by
  unfold held; split <;> (try split) <;> omega
theorem held_in (n : Int) (h0 : -9223372036854775808 ≤ n) (h1 : n ≤ 9223372036854775807) : held n = n := by
  unfold held; rw [if_neg (by omega), if_neg (by omega)]
theorem held_hi (n : Int) (h1 : 9223372036854775807 ≤ n) : held n = 9223372036854775807 := by
  unfold held; rw [if_neg (by omega)]; split <;> omega
theorem held_lo (n : Int) (h1 : n ≤ -9223372036854775808) : held n = -9223372036854775808 := by
  unfold held; split
  · rfl
  · rw [if_neg (by omega)]; omega

/-- One step of the long division: an upper number below Y, one more digit of 32 bits. 'yn1', 'yn0': Y's digits. -/
structure Knuth (un32 un1 yn1 yn0 Y Q : Int) : Prop where
  hun : 0 ≤ un32
  hlt : un32 < Y
  h1 : 0 ≤ un1
  h1' : un1 < 4294967296
  hy1 : 2147483648 ≤ yn1
  hy1' : yn1 < 4294967296
  hy0 : 0 ≤ yn0
  hy0' : yn0 < 4294967296
  hY : Y = yn1 * 4294967296 + yn0
  hQ : Q = (un32 * 4294967296 + un1) / Y

namespace Knuth
variable {un32 un1 yn1 yn0 Y Q : Int}
theorem Ypos (k : Knuth un32 un1 yn1 yn0 Y Q) : 0 < Y := by have := k.hun; have := k.hlt; omega
theorem Qle (k : Knuth un32 un1 yn1 yn0 Y Q) : Q * Y ≤ un32 * 4294967296 + un1 := by
  rw [k.hQ]; exact Int.ediv_mul_le _ (by have := k.Ypos; omega)
theorem Qlt (k : Knuth un32 un1 yn1 yn0 Y Q) : un32 * 4294967296 + un1 < (Q + 1) * Y := by
  rw [k.hQ]; have := Int.lt_ediv_add_one_mul_self (un32 * 4294967296 + un1) k.Ypos; exact this
theorem le_of (k : Knuth un32 un1 yn1 yn0 Y Q) {q : Int} (h : q * Y ≤ un32 * 4294967296 + un1) : q ≤ Q := by
  rw [k.hQ]; exact (Int.le_ediv_iff_mul_le k.Ypos).2 h
theorem Q0 (k : Knuth un32 un1 yn1 yn0 Y Q) : 0 ≤ Q := k.le_of (by have := k.hun; have := k.h1; omega)
theorem Qb (k : Knuth un32 un1 yn1 yn0 Y Q) : Q < 4294967296 := by
  rw [k.hQ]; refine Int.ediv_lt_of_lt_mul k.Ypos ?_
  have := k.hlt; have := k.h1'; omega
theorem start (k : Knuth un32 un1 yn1 yn0 Y Q) : Q ≤ un32 / yn1 := by
  refine (Int.le_ediv_iff_mul_le (by have := k.hy1; omega)).2 ?_
  have h := k.Qle
  rw [k.hY, Int.mul_add, ← Int.mul_assoc] at h
  have h2 : 0 ≤ Q * yn0 := Int.mul_nonneg k.Q0 k.hy0
  have := k.h1'
  generalize Q * yn1 = x at *
  omega
theorem next (k : Knuth un32 un1 yn1 yn0 Y Q) {q r : Int} (h : q * yn1 + r = un32) (ht : 4294967296 ≤ q ∨ 4294967296 * r + un1 < q * yn0) (hQ : Q ≤ q) : Q ≤ q - 1 := by
  have hb := k.Qb
  rcases ht with ht | ht
  · omega
  · have : Q ≠ q := by
      intro e; subst e
      have h := k.Qle
      rw [k.hY, Int.mul_add, ← Int.mul_assoc] at h
      generalize Q * yn1 = x at *
      omega
    omega
theorem stop (k : Knuth un32 un1 yn1 yn0 Y Q) {q r : Int} (h : q * yn1 + r = un32) (ht : q * yn0 ≤ 4294967296 * r + un1) (hQ : Q ≤ q) : q = Q := by
  have : q ≤ Q := k.le_of (by
    rw [k.hY, Int.mul_add, ← Int.mul_assoc]
    generalize q * yn1 = x at *
    omega)
  omega
theorem brk (k : Knuth un32 un1 yn1 yn0 Y Q) {q r : Int} (h : q * yn1 + r = un32) (hr : 4294967296 ≤ r) (hQ : Q ≤ q) : q = Q := by
  have hq0 : 0 ≤ q := by have := k.Q0; omega
  have hq : q < 4294967296 := by
    rcases Int.lt_or_le q 4294967296 with h' | h'
    · exact h'
    · exfalso
      have := Int.mul_le_mul_of_nonneg_right h' (show 0 ≤ yn1 by have := k.hy1; omega)
      have := k.hlt; have := k.hY; have := k.hy0'
      omega
  have : q * yn0 ≤ 4294967296 * 4294967296 := by
    refine Int.mul_le_mul (by omega) (by have := k.hy0'; omega) k.hy0 (by omega)
  exact k.stop h (by have := k.h1; omega) hQ
theorem rest (k : Knuth un32 un1 yn1 yn0 Y Q) : 0 ≤ un32 * 4294967296 + un1 - Q * Y ∧ un32 * 4294967296 + un1 - Q * Y < Y := by
  have h := k.Qle; have h' := k.Qlt
  rw [Int.add_mul] at h'
  omega
end Knuth

/-- The ways through a round of the correction: it goes on, it breaks off, it ends. -/
theorem knuth_ways {un32 un1 yn1 yn0 Y Q q r : Int} (k : Knuth un32 un1 yn1 yn0 Y Q) (h : q * yn1 + r = un32) (hQ : Q ≤ q) :
    (4294967296 ≤ q ∧ Q ≤ q - 1 ∧ r + yn1 < 4294967296 ∧ (q - 1) * yn1 + (r + yn1) = un32) ∨
    (q < 4294967296 ∧ 4294967296 * r + un1 < q * yn0 ∧ Q ≤ q - 1 ∧ r + yn1 < 4294967296 ∧ (q - 1) * yn1 + (r + yn1) = un32) ∨
    (4294967296 ≤ q ∧ 4294967296 ≤ r + yn1 ∧ q = Q + 1) ∨
    (q < 4294967296 ∧ 4294967296 * r + un1 < q * yn0 ∧ 4294967296 ≤ r + yn1 ∧ q = Q + 1) ∨
    (q < 4294967296 ∧ q * yn0 ≤ 4294967296 * r + un1 ∧ q = Q) := by
  have e : (q - 1) * yn1 + (r + yn1) = un32 := by rw [Int.sub_mul]; omega
  by_cases hA : 4294967296 ≤ q
  · have hn := k.next h (Or.inl hA) hQ
    by_cases hb : 4294967296 ≤ r + yn1
    · have := k.brk e hb hn
      exact Or.inr (Or.inr (Or.inl ⟨hA, hb, by omega⟩))
    · exact Or.inl ⟨hA, hn, by omega, e⟩
  · by_cases hB : 4294967296 * r + un1 < q * yn0
    · have hn := k.next h (Or.inr hB) hQ
      by_cases hb : 4294967296 ≤ r + yn1
      · have := k.brk e hb hn
        exact Or.inr (Or.inr (Or.inr (Or.inl ⟨by omega, hB, hb, by omega⟩)))
      · exact Or.inr (Or.inl ⟨by omega, hB, hn, by omega, e⟩)
    · exact Or.inr (Or.inr (Or.inr (Or.inr ⟨by omega, by omega, k.stop h (by omega) hQ⟩)))

/-- Two such steps are one division. -/
theorem knuth_two {u1 d1 d0 yn1 yn0 Y Q1 Q0 : Int} (k1 : Knuth u1 d1 yn1 yn0 Y Q1) (k0 : Knuth (u1 * 4294967296 + d1 - Q1 * Y) d0 yn1 yn0 Y Q0) :
    (u1 * 18446744073709551616 + (d1 * 4294967296 + d0)) / Y = Q1 * 4294967296 + Q0 ∧
    (u1 * 18446744073709551616 + (d1 * 4294967296 + d0)) % Y = (u1 * 4294967296 + d1 - Q1 * Y) * 4294967296 + d0 - Q0 * Y := by
  have hr := k0.rest
  have e : u1 * 18446744073709551616 + (d1 * 4294967296 + d0) = ((u1 * 4294967296 + d1 - Q1 * Y) * 4294967296 + d0 - Q0 * Y) + Y * (Q1 * 4294967296 + Q0) := by
    rw [Int.mul_add, Int.mul_comm Y Q0, ← Int.mul_assoc, Int.mul_comm Y Q1]
    generalize Q1 * Y = a
    generalize Q0 * Y = b
    omega
  have hY := k1.Ypos
  rw [e]
  constructor
  · rw [Int.add_mul_ediv_left _ _ (by omega), Int.ediv_eq_zero_of_lt hr.1 hr.2]; omega
  · rw [Int.add_mul_emod_self_left, Int.emod_eq_of_lt hr.1 hr.2]

/-- A division with both sides moved up by the same places. -/
theorem div_up (x y p : Int) (hp : 0 < p) : (x * p) / (y * p) = x / y ∧ (x * p) % (y * p) / p = x % y := by
  constructor
  · exact Int.mul_ediv_mul_of_pos_left x y hp
  · rw [Int.mul_comm x p, Int.mul_comm y p, Int.mul_emod_mul_of_pos _ _ hp, Int.mul_ediv_cancel_left _ (by omega)]

end Go.Proofs.Ytkijonnbngnliaa

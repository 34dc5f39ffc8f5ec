/-
  The program's sentences: minutes, angles.
-/
import Derived.Test.YtajgicliepenkaaDoorNmpB
namespace Go.Proofs.YtajgicliepenkaaDoor
open Go.RowKit
set_option linter.unusedVariables false

theorem min_err (S : List Nat) : (minOf S).2 < 1000 := by
  have h1 := int_err (S.take 2) 0 59
  have h2 := fixed_err S 5
  unfold minOf
  split
  · decide
  · split
    · exact h1
    · exact h2
theorem ang_err (S : List Nat) (d : Nat) (m : Int) : (angOf S d m).2 < 1000 := by
  unfold angOf
  repeat' split
  all_goals simp
theorem int_in (S : List Nat) (l m : Int) (h : l ≤ 0 ∧ 0 ≤ m) : l ≤ (intAns S l m).1 ∧ (intAns S l m).1 ≤ m := by
  unfold intAns
  split
  · exact h
  · split
    · exact h
    · split
      · exact h
      · rename_i h3
        simp only
        omega
theorem fixN_le (S : List Nat) (a : Nat) : ∀ (k base m : Nat), base ≤ m → (∀ i, wd S i < 256) → fixN S a base k ≤ (m + 256) * 11 ^ k := by
  intro k
  induction k with
  | zero => intro base m h _; rw [fixN]; omega
  | succ k ih =>
    intro base m h hB
    have h1 := ih base m h hB
    have h2 := hB (a + (k + 1))
    have h3 : 1 ≤ 11 ^ k := Nat.pow_pos (by omega)
    have h4 : 256 * 1 ≤ (m + 256) * 11 ^ k := Nat.mul_le_mul (by omega) h3
    rw [fixN, Nat.pow_succ, ← Nat.mul_assoc]
    generalize (m + 256) * 11 ^ k = q at *
    split <;> omega
theorem num_le (S : List Nat) (a : Nat) (hB : ∀ i, wd S i < 256) : ∀ k, numOf S a k ≤ 256 * 11 ^ k := by
  intro k
  induction k with
  | zero => rw [numOf]; omega
  | succ k ih =>
    have h2 := hB (a + k)
    have h3 : 1 ≤ 11 ^ k := Nat.pow_pos (by omega)
    rw [numOf, Nat.pow_succ, ← Nat.mul_assoc]
    omega
/-- Minutes are of less than a hundred. -/
theorem fixed_in (S : List Nat) (hB : ∀ i, wd S i < 256) (hp : pointOf S ≤ 2) : -1000000000000 ≤ (fixedOf S 5).1 ∧ (fixedOf S 5).1 ≤ 1000000000000 := by
  unfold fixedOf
  split
  · simp
  · split
    · simp
    · split
      · simp
      · split
        · simp
        · have h1 := num_le S (fromOf S) hB (pointOf S - fromOf S)
          have h2 : (11 : Nat) ^ (pointOf S - fromOf S) ≤ 11 ^ 2 := Nat.pow_le_pow_right (by omega) (by omega)
          have h3 := fixN_le S (pointOf S) 5 (numOf S (fromOf S) (pointOf S - fromOf S)) (256 * 121) (by omega) hB
          simp only [show (5 : Int).toNat = 5 from rfl]
          split <;> omega
theorem min_in (S : List Nat) (hB : ∀ i, wd S i < 256) : -1000000000000 ≤ (minOf S).1 ∧ (minOf S).1 ≤ 1000000000000 := by
  unfold minOf
  split
  · simp
  · split
    · simp
    · exact fixed_in S hB (by omega)
theorem take_nat (s : ByteArray) (k : Nat) : nat (s.extract 0 k) = (nat s).take k := by rw [nat_extract, List.drop_zero]
theorem drop_nat (s : ByteArray) (k : Nat) : nat (s.extract k s.size) = (nat s).drop k := by rw [nat_extract, ← nat_length, List.take_length]

set_option maxHeartbeats 1000000 in
theorem r_minutes (x : ByteArray) (w : World) (hs : x.size ≤ 1000) :
    Calls Tryd.prog 76 #[.string x] w fun e w' => e = .returned (.tuple #[.int .i64 (minOf (nat x)).1, .int .i64 ((minOf (nat x)).2 : Nat)]) ∧ Grew w w' := by
  have HC := fun w => fld_cut x 46 (pointOf (nat x)) w hs (point_place _).symm
  unfold parted at HC
  have hl := nat_length x
  have hpl := pointOf_le (nat x)
  have G := Lib.hid (Grew.refl w)
  have HU : minOf (nat x) = if pointOf (nat x) ≠ 2 then (0, 5) else if (intAns ((nat x).take 2) 0 59).2 ≠ 0 then (0, (intAns ((nat x).take 2) 0 59).2) else fixedOf (nat x) 5 := rfl
  have sz : (x.extract 0 (pointOf (nat x))).size = pointOf (nat x) := by rw [size_extract]; omega
  by_cases hp : pointOf (nat x) = 2
  · rw [if_neg (fun h => h hp)] at HU
    rw [hp] at HC sz
    have HI := fun w => fld_Int (x.extract 0 2) 0 59 w (by omega) (by decide) (by decide)
    rw [take_nat] at HI
    have HF := fun w => Lib.hid (fld_Fixed x 5 w hs (by decide))
    have z1 : ((x.extract 0 2).size : Int) = 2 := by omega
    have z2 : (((x.extract 0 2).size : Int) != 2) = false := by rw [z1]; rfl
    generalize x.extract 0 2 = a at *
    generalize x.extract (2 + 1) x.size = b at *
    generalize decide (2 < x.size) = d at *
    generalize intAns ((nat x).take 2) 0 59 = r at *
    obtain ⟨r1, r2⟩ := r
    by_cases hr : r2 = 0
    · subst hr
      rw [if_neg (by simp)] at HU
      have HV := Lib.hid HU
      replace HC := fun w => Lib.hid (HC w)
      replace HI := fun w => Lib.hid (HI w)
      clear HU hp hpl hl
      go_enter Tryd.func76, Tryd.ntmps76
      go_wp2_with (first | (go_at_call 73; refine (HC _).out.mono ?_; rintro e w1 ⟨rfl, g1⟩; replace G := Lib.hid (G.out.trans g1); clear g1) | (go_at_call 55; refine (HI _).out.mono ?_; rintro e w1 ⟨rfl, g1⟩; replace G := Lib.hid (G.out.trans g1); clear g1) | (go_at_call 56; refine (HF _).out.mono ?_; rintro e w1 ⟨rfl, g1⟩; replace G := Lib.hid (G.out.trans g1); clear g1))
      go_ret2
      exact ⟨by rw [HV.out]; rfl, G.out⟩
    · rw [if_pos hr] at HU
      have HV := Lib.hid HU
      have y0 : ((r2 : Int) != 0) = true := by simp; omega
      have y1 : ¬ (r2 : Int) = 0 := by omega
      replace HC := fun w => Lib.hid (HC w)
      replace HI := fun w => Lib.hid (HI w)
      clear HU hp hpl hl hr
      go_enter Tryd.func76, Tryd.ntmps76
      go_wp2_with (first | (go_at_call 73; refine (HC _).out.mono ?_; rintro e w1 ⟨rfl, g1⟩; replace G := Lib.hid (G.out.trans g1); clear g1) | (go_at_call 55; refine (HI _).out.mono ?_; rintro e w1 ⟨rfl, g1⟩; replace G := Lib.hid (G.out.trans g1); clear g1))
      go_ret2
      exact ⟨by rw [HV.out]; rfl, G.out⟩
  · rw [if_pos hp] at HU
    have HV := Lib.hid HU
    generalize pointOf (nat x) = p at *
    have z0 : (((x.extract 0 p).size : Int) != 2) = true := by simp; omega
    have z1 : ¬ ((x.extract 0 p).size : Int) = 2 := by omega
    generalize x.extract 0 p = a at *
    generalize x.extract (p + 1) x.size = b at *
    generalize decide (p < x.size) = d at *
    replace HC := fun w => Lib.hid (HC w)
    clear HU hp hpl hl sz
    go_enter Tryd.func76, Tryd.ntmps76
    go_wp2_with (first | (go_at_call 73; refine (HC _).out.mono ?_; rintro e w1 ⟨rfl, g1⟩; replace G := Lib.hid (G.out.trans g1); clear g1))
    go_ret2
    exact ⟨by rw [HV.out]; rfl, G.out⟩
end Go.Proofs.YtajgicliepenkaaDoor

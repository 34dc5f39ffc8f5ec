/-
  The program's fields: numbers of digits.
-/
import Derived.Test.YtajgicliepenkaaDoorFlpA
namespace Go.Proofs.YtajgicliepenkaaDoor
open Go.RowKit
set_option linter.unusedVariables false

/-- The number of the first k bytes, by what each is worth. -/
def numV (v : Nat → Nat) (B : Nat) (S : List Nat) : Nat → Nat
  | 0 => 0
  | k + 1 => numV v B S k * B + v (wd S k)
theorem numV_mono (v : Nat → Nat) (B : Nat) (S : List Nat) (hB : 1 ≤ B) : ∀ k m, k ≤ m → numV v B S k ≤ numV v B S m := by
  intro k m h
  induction m with
  | zero => have : k = 0 := by omega
            subst this; exact Nat.le_refl _
  | succ m ih =>
    rcases Nat.lt_or_ge k (m + 1) with h1 | h1
    · have := ih (by omega)
      rw [numV]
      have h2 : numV v B S m * 1 ≤ numV v B S m * B := Nat.mul_le_mul_left _ hB
      omega
    · have : k = m + 1 := by omega
      subst this; exact Nat.le_refl _
theorem numV_dec (S : List Nat) : ∀ k, numV (fun b => b - 48) 10 S k = numOf S 0 k
  | 0 => rfl
  | k + 1 => by rw [numV, numOf, numV_dec S k, Nat.zero_add]
theorem numV_hex (S : List Nat) : ∀ k, numV hexv 16 S k = hexTo S k
  | 0 => rfl
  | k + 1 => by rw [numV, hexTo, numV_hex S k]
/-- What a number is told as. -/
def told (n : Nat) : Value := .tuple #[.int .i64 (if n ≤ 9223372036854775807 then (n : Int) else 0), .bool (decide (n ≤ 9223372036854775807))]
set_option maxHeartbeats 1000000 in
theorem fld_number (s t : ByteArray) (p : Nat → Bool) (v : Nat → Nat) (w : World) (hs : s.size ≤ 1000) (hp : (nat s).all p = true) (D : Among t p v) (hB : 2 ≤ t.size ∧ t.size ≤ 100) (hv : ∀ b, p b = true → v b < t.size) :
    Calls Tryd.prog 68 #[.string s, .string t] w fun e w' => e = .returned (told (numV v t.size (nat s) s.size)) ∧ w = w' := by
  have hl := nat_length s
  have HA := fun j h w => Lib.hid (str_at s j h w)
  have HP : Hid (∀ j, j < s.size → wd (nat s) j < 256 ∧ v (wd (nat s) j) < t.size ∧ ∀ w', Calls Tryd.prog 70 #[.string t, .int .u8 (wd (nat s) j : Nat)] w' fun e w'' => e = .returned (.int .i64 (v (wd (nat s) j) : Nat)) ∧ w'' = w') := fun j hj => by
    have h1 := all_iff.1 hp j (by rw [hl]; exact hj)
    have h2 := nat_lt s j
    refine ⟨h2, hv _ h1, fun w' => ?_⟩
    have := Tryd.strings_IndexByte t (wd (nat s) j : Nat) w'
    rwa [boolInt _ h2, D.yes _ h2 h1] at this
  have HM := fun k m h => Lib.hid (numV_mono v t.size (nat s) (by omega) k m h)
  have HS := fun k => Lib.hid (show numV v t.size (nat s) (k + 1) = numV v t.size (nat s) k * t.size + v (wd (nat s) k) from rfl)
  clear hl hp D hv
  obtain ⟨B, hBB⟩ : ∃ B, t.size = B := ⟨_, rfl⟩
  rw [hBB] at HP HM HS hB
  have HBB := Lib.hid hBB
  have b0 : ¬ (B : Int) = 0 := by omega
  have b1 : ¬ (B : Int) = -1 := by omega
  go_enter Tryd.func68, Tryd.ntmps68
  go_wp2_with fail
  go_loop [7, 8, 9, 14] (fun n x d i => ∃ j : Nat, j ≤ s.size ∧ i = .int .i64 (j : Nat) ∧ n = .int .i64 (numV v B (nat s) j : Nat) ∧ numV v B (nat s) j ≤ 9223372036854775807) (fun _ _ _ i => s.size - (intOf i).toNat)
  case atStart => exact ⟨0, by omega, rfl, rfl, by simp [numV]⟩
  case round =>
    obtain ⟨j, hj, rfl, rfl, hn⟩ := hrel
    by_cases hlt : j < s.size
    · have y := fun w => (HA j hlt w).out
      obtain ⟨x256, hvB, H'⟩ := HP.out j hlt
      have H := fun w' => Lib.hid (H' w')
      have m0 : (j : Int) < s.size := by omega
      have m1 : (0 : Int) ≤ j := by omega
      have hst := HS j
      have hmo := HM (j + 1) s.size (by omega)
      generalize wd (nat s) j = c at *
      generalize v c = d at *
      generalize numV v B (nat s) j = n at *
      have d1 : IntKind.i64.wrap (9223372036854775807 - (d : Int)) = ((9223372036854775807 - d : Nat) : Int) := by rw [IntWalk.i64_in _ (by omega)]; omega
      have d2 : Int.tdiv ((9223372036854775807 - d : Nat) : Int) (B : Int) = (((9223372036854775807 - d) / B : Nat) : Int) := rfl
      have d6 : ((9223372036854775807 - d : Nat) : Int) / (B : Int) = (((9223372036854775807 - d) / B : Nat) : Int) := rfl
      have hq : (9223372036854775807 - d) / B ≤ 9223372036854775807 - d := Nat.div_le_self _ _
      have hiff : (9223372036854775807 - d) / B < n ↔ 9223372036854775807 - d < n * B := Nat.div_lt_iff_lt_mul (by omega)
      have HI := Lib.hid hiff
      generalize (9223372036854775807 - d) / B = q at *
      have d3 : IntKind.i64.wrap (q : Int) = q := IntWalk.i64_in _ (by omega)
      clear H' HA HP HM HS hiff
      by_cases hov : q < n
      · have o1 : (q : Int) < n := by omega
        have hbig : Hid (¬ numV v B (nat s) s.size ≤ 9223372036854775807) := by
          show ¬ _
          have h1 := HI.out.1 hov
          have h2 := hst.out
          have h3 := hmo.out
          omega
        clear HI hst hmo
        go_wp2_with (first | (go_at_call 70; refine (H _).out.mono ?_; rintro e w1 ⟨rfl, rfl⟩))
        go_ret2
        exact ⟨by rw [HBB.out]; unfold told; rw [if_neg hbig.out, decide_eq_false hbig.out]; rfl, rfl⟩
      · have o1 : ¬ (q : Int) < n := by omega
        have hle : n * B + d ≤ 9223372036854775807 := by
          have h1 := mt HI.out.2 hov
          omega
        obtain ⟨m, hm⟩ : ∃ m, n * B = m := ⟨_, rfl⟩
        have d4 : IntKind.i64.wrap ((n : Int) * (B : Int)) = (m : Nat) := by rw [← hm, IntWalk.i64_in _ (by rw [← Int.natCast_mul, hm]; omega)]; simp
        have d5 : IntKind.i64.wrap ((m : Int) + (d : Int)) = ((m + d : Nat) : Int) := by rw [IntWalk.i64_in _ (by omega)]; simp
        have hst2 := Lib.hid (show numV v B (nat s) (j + 1) = m + d by rw [hst.out, hm])
        clear HI hst hmo
        go_wp2_with (first | (go_at_call 70; refine (H _).out.mono ?_; rintro e w1 ⟨rfl, rfl⟩))
        go_round
        case rel => exact ⟨j + 1, by omega, by simp, by rw [hst2.out]; simp, by rw [hst2.out]; omega⟩
        case measure => simp [intOf]; omega
    · obtain rfl : j = s.size := by omega
      have HN := Lib.hid hn
      clear HA HP HM HS hn
      go_wp2_with fail
      go_ret2
      exact ⟨by unfold told; rw [if_pos HN.out, decide_eq_true HN.out]; rfl, rfl⟩
end Go.Proofs.YtajgicliepenkaaDoor

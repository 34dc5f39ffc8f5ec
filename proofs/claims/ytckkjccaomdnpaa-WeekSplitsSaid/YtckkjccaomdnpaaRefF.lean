/-
  Contracts of the document's numbers: the nearest int64.
-/
import Derived.Test.YtckkjccaomdnpaaRefE
namespace Go.Proofs.Ytckkjccaomdnpaa
open Go.RowKit
set_option linter.unusedVariables false

theorem or_add (a b : Nat) (ha : a < 4294967296) (hb : b < 4294967296) : bits BinOp.or IntKind.u64 ((a : Int) * 4294967296) (b : Int) = ((a * 4294967296 + b : Nat) : Int) := by
  have h := bits_or_u64_nat (a * 4294967296) b (by omega) (by omega)
  rw [Int.natCast_mul] at h
  rw [show ((4294967296 : Nat) : Int) = 4294967296 from rfl] at h
  rw [h]
  congr 1
  have := Nat.two_pow_add_eq_or_of_lt (i := 32) (b := b) (by omega) a
  rw [Nat.mul_comm a]
  exact this.symm

theorem two_val {xs : List Nat} (h : xs.length ≤ 2) : val xs = wd xs 0 + wd xs 1 * 4294967296 := by
  rw [← val_at (xs := xs) (n := 2) h]; simp [sumTo]
theorem low_one {xs : List Nat} : wd xs 1 * 4294967296 ≤ val xs := by
  by_cases h : xs.length ≤ 2
  · rw [two_val h]; omega
  · rw [← val_at (xs := xs) (n := 2 + xs.length) (by omega), sumTo_split]
    simp [sumTo]; omega
theorem low_three {xs : List Nat} (h : 2 < xs.length) (t : Tight xs) : 18446744073709551616 ≤ val xs := by
  have := t.low (by intro e; rw [e] at h; simp at h)
  have h2 : 4294967296 ^ 2 ≤ 4294967296 ^ (xs.length - 1) := Nat.pow_le_pow_right (by omega) (by omega)
  omega

set_option maxHeartbeats 1000000 in
theorem ref_Held (v : Value) (n : Int) (L : Nat) (w : World) (hN : NumT w v n L) (hL : L ≤ 1000000) :
    Calls Try.prog 21 #[v] w fun e w' => e = .returned (.int .i64 (held n)) ∧ Grew w w' := by
  obtain ⟨sl, xs, rfl, hr, hw, hv, hl, ht⟩ := hN
  obtain ⟨A, c, hA, _⟩ := hr.form
  subst hA
  have HV := Lib.hid hv
  obtain ⟨b, hb, hbn⟩ : ∃ b, decide (n < 0) = b ∧ Hid (if b then n < 0 else 0 ≤ n) := ⟨_, rfl, by by_cases h : n < 0 <;> simp [h, Hid] <;> omega⟩
  rw [hb]
  clear hb
  have b1 := hw 1; have b0 := hw 0
  have l1 := low_one (xs := xs)
  have g0 : Grew w (w.alloc (.cells #[.bool b, .slice A xs.length c] 37)) := (Grew.refl _).alloc _
  by_cases big : 2 < xs.length ∨ 2147483648 ≤ wd xs 1
  · have hbig : 9223372036854775808 ≤ n.natAbs := by
      rcases big with h | h
      · have := low_three h ht; omega
      · omega
    clear hv l1
    cases b
    all_goals
      rcases (show 2 < xs.length ∨ (xs.length ≤ 2 ∧ 2147483648 ≤ wd xs 1) by omega) with h | ⟨h, h'⟩
      all_goals
        go_enter Try.func21, Try.ntmps21
        go_wp2_with (go_at_call 31; refine (ref_word _ xs _ _ (hr.grew g0) (by omega) (by omega)).mono ?_; rintro e w' ⟨rfl, rfl⟩)
        go_ret
        exact ⟨ret_int (by have hn := hbn.out; simp at hn; first | rw [held_lo _ (by omega)] | rw [held_hi _ (by omega)]), g0⟩
  · have hlen : xs.length ≤ 2 := by omega
    have h1 : wd xs 1 < 2147483648 := by omega
    have hval := two_val hlen
    rw [HV.out] at hval
    have HVV := Lib.hid hval
    have hO := or_add (wd xs 1) (wd xs 0) b1 b0
    clear hv hval big l1
    cases b
    all_goals
      go_enter Try.func21, Try.ntmps21
      go_wp2_with (go_at_call 31; refine (ref_word _ xs _ _ (hr.grew g0) (by omega) (by omega)).mono ?_; rintro e w' ⟨rfl, rfl⟩)
      go_quiet ((go_at_call 31; exact Calls.quiet_of_same ((ref_word _ xs _ _ (hr.grew (g0.drewN _)) (by omega) (by omega)).mono fun _ _ h => ⟨h.1, h.2.symm⟩)))
      go_wp2
      go_ret
      exact ⟨ret_int (by have hn := hbn.out; have hv := HVV.out; simp at hn; rw [held_in _ (by omega) (by omega)]; omega), g0.drewN _⟩
end Go.Proofs.Ytckkjccaomdnpaa

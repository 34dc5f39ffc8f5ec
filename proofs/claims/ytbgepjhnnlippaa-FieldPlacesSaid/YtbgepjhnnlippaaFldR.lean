/-
  The document's fields: read, digits, numbers, hex digits, points.
-/
import Derived.Test.YtbgepjhnnlippaaFldM
import Derived.LoopTactic
namespace Go.Proofs.Ytbgepjhnnlippaa
open Go.RowKit
set_option linter.unusedVariables false

theorem str_at (s : ByteArray) (j : Nat) (h : j < s.size) (w : World) : Sem.run Try.prog (Instr.index 9 (.string s) (.int .i64 (j : Nat))) w = .ok (.int .u8 (wd (nat s) j : Nat)) w := by
  rw [run_index_string w 9 s .i64 j Try.underlying9, dif_pos ⟨by omega, by omega⟩]
  rw [← nat_wd s j h]
  rfl
theorem fld_ret_bool {a b : Bool} (h : a = b) : Ending.returned (.bool a) = .returned (.bool b) := by rw [h]
theorem ref09_read (s : ByteArray) (w : World) (hs : s.size ≤ 1000) : Calls Try.prog 21 #[.string s] w fun e w' => e = .returned (.int .i64 (readE (nat s) : Nat)) ∧ w = w' := by
  have hl := nat_length s
  unfold readE
  rw [hl]
  clear hl
  generalize hn : s.size = n at *
  by_cases h0 : n = 0
  · rw [if_pos h0]
    have h0' : (n : Int) = 0 := by omega
    go_enter Try.func21, Try.ntmps21
    go_wp2_with fail
    go_ret
    exact ⟨rfl, rfl⟩
  · rw [if_neg h0]
    have h0' : ¬ (n : Int) = 0 := by omega
    by_cases h1 : 20 < n
    · rw [if_pos h1]
      have h1' : (20 : Int) < n := by omega
      go_enter Try.func21, Try.ntmps21
      go_wp2_with fail
      go_ret
      exact ⟨rfl, rfl⟩
    · rw [if_neg h1]
      have h1' : ¬ (20 : Int) < n := by omega
      go_enter Try.func21, Try.ntmps21
      go_wp2_with fail
      go_ret
      exact ⟨rfl, rfl⟩

set_option maxHeartbeats 1000000 in
theorem ref09_Digits (s : ByteArray) (a b : Nat) (w : World) (hs : s.size ≤ 1000) (ha : a ≤ 1001) (hb : b ≤ s.size) :
    Calls Try.prog 22 #[.string s, .int .i64 (a : Nat), .int .i64 (b : Nat)] w fun e w' => e = .returned (.bool (digs (nat s) a b)) ∧ w = w' := by
  have hl := nat_length s
  have HA := fun j h w => Lib.hid (str_at s j h w)
  have HI := Lib.hid (digs_iff (S := nat s) (a := a) (b := b) (by omega))
  have HB := fun j => Lib.hid (nat_lt s j)
  go_enter Try.func22, Try.ntmps22
  go_wp2_with fail
  go_loop [7] (fun i => ∃ j : Nat, j ≤ b - a ∧ i = .int .i64 ((a + j : Nat) : Int) ∧ Hid (∀ q : Nat, a ≤ q → q < a + j → isDig (wd (nat s) q) = true)) (fun i => b + 1 - (intOf i).toNat)
  case atStart => exact ⟨0, by omega, by simp, fun i h1 h2 => by omega⟩
  case round =>
    obtain ⟨j, hj, rfl, hM⟩ := hrel
    obtain ⟨m, hm⟩ : ∃ m, a + j = m := ⟨_, rfl⟩
    rw [hm] at hM ⊢
    by_cases hlt : m < b
    · have y := fun w => (HA m (by omega) w).out
      have x256 := (HB m).out
      have m0 : (m : Int) < b := by omega
      by_cases hd : isDig (wd (nat s) m) = true
      · have HS : Hid (∀ i, a ≤ i → i < m + 1 → isDig (wd (nat s) i) = true) := fun i h1 h2 => by
          rcases Nat.lt_or_ge i m with h | h
          · exact hM.out i h1 h
          · obtain rfl : i = m := by omega
            exact hd
        unfold isDig at hd
        simp at hd
        have d1 : ¬ ((wd (nat s) m : Nat) : Int) < 48 := by omega
        have d2 : ¬ (57 : Int) < (wd (nat s) m : Nat) := by omega
        clear hM hd HA HB
        generalize wd (nat s) m = x at *
        go_wp2_with fail
        go_round
        case rel => exact ⟨j + 1, by omega, by rw [← hm]; simp; omega, by rw [show a + (j + 1) = m + 1 by omega]; exact HS⟩
        case measure => simp [intOf]; omega
      · have HF : Hid (digs (nat s) a b = false) := by
          show _ = _
          rw [← Bool.not_eq_true, HI.out]
          exact fun h => hd (h.2 m (by omega) hlt)
        unfold isDig at hd
        simp at hd
        have hd2 : wd (nat s) m < 48 ∨ (¬ wd (nat s) m < 48 ∧ 57 < wd (nat s) m) := by omega
        clear hM hd HA HB
        generalize wd (nat s) m = x at *
        rcases hd2 with hd2 | hd2
        all_goals go_wp2_with fail
        all_goals go_ret
        all_goals exact ⟨by rw [HF.out]; rfl, rfl⟩
    · have HF : Hid (digs (nat s) a b = decide (a < b)) := by
        show _ = _
        rw [Bool.eq_iff_iff, HI.out, decide_eq_true_eq]
        exact ⟨fun h => by omega, fun h => ⟨by omega, fun i h1 h2 => hM.out i h1 (by omega)⟩⟩
      have m0 : ¬ (m : Int) < b := by omega
      clear hM HA HB
      go_wp2_with fail
      go_ret
      exact ⟨by rw [HF.out]; rfl, rfl⟩
end Go.Proofs.Ytbgepjhnnlippaa

/-
  The laws of fields: one place more, the walk.
-/
import Derived.Test.YtbgepjhnnlippaaFldZ
namespace Go.Proofs.Ytbgepjhnnlippaa
open Go.RowKit
set_option linter.unusedVariables false

set_option maxRecDepth 100000 in
set_option maxHeartbeats 4000000 in
theorem law_places (s : ByteArray) (places : Int) (w : World) (hpl : -9223372036854775808 ≤ places ∧ places ≤ 9223372036854775807) :
    Calls Try.prog 4 #[.string s, .int .i64 places] w fun e w' => e = .returned (.bool true) ∧ Grew w w' := by
  have HK := fun w => Lib.hid (known_true w)
  have G := Lib.hid (Grew.refl w)
  by_cases hout : 15 < s.size ∨ places < 0 ∨ 8 < places
  · have hcase : 15 < s.size ∨ (¬ 15 < s.size ∧ places < 0) ∨ (¬ 15 < s.size ∧ ¬ places < 0 ∧ 8 < places) := by omega
    clear hout
    rcases hcase with h | ⟨h, h'⟩ | ⟨h, h', h''⟩
    · have c1 : (15 : Int) < s.size := by omega
      go_enter Try.func4, Try.ntmps4
      go_wp2_with (first | (go_at_call 5; refine (HK _).out.mono ?_; rintro e w1 ⟨rfl, g1⟩))
      go_ret
      exact ⟨rfl, g1⟩
    · have c1 : ¬ (15 : Int) < s.size := by omega
      go_enter Try.func4, Try.ntmps4
      go_wp2_with (first | (go_at_call 5; refine (HK _).out.mono ?_; rintro e w1 ⟨rfl, g1⟩))
      go_ret
      exact ⟨rfl, g1⟩
    · have c1 : ¬ (15 : Int) < s.size := by omega
      go_enter Try.func4, Try.ntmps4
      go_wp2_with (first | (go_at_call 5; refine (HK _).out.mono ?_; rintro e w1 ⟨rfl, g1⟩))
      go_ret
      exact ⟨rfl, g1⟩
  · obtain ⟨P, rfl⟩ : ∃ P : Nat, places = P := ⟨places.toNat, by omega⟩
    have hP : P ≤ 8 := by omega
    have c1 : ¬ (15 : Int) < s.size := by omega
    have c2 : ¬ (P : Int) < 0 := by omega
    have c3 : ¬ (8 : Int) < P := by omega
    have hs15 : s.size ≤ 15 := by omega
    have hl := nat_length s
    obtain ⟨q1, q2, q3⟩ := places_next (nat s) P hP
    have HA := fun w => fld_Fixed s (P : Nat) w (by omega) (by omega)
    have HB : ∀ w, Calls Try.prog 8 #[.string s, .int .i64 ((P + 1 : Nat) : Int)] w fun e w' => e = .returned (.tuple #[.int .i64 (fixedOf (nat s) ((P + 1 : Nat) : Int)).1, .int .i64 ((fixedOf (nat s) ((P + 1 : Nat) : Int)).2 : Nat)]) ∧ Grew w w' := fun w => fld_Fixed s ((P + 1 : Nat) : Int) w (by omega) (by omega)
    have e1 : IntKind.i64.wrap ((P : Int) + 1) = ((P + 1 : Nat) : Int) := by rw [IntWalk.i64_in _ (by omega)]; simp
    rw [← q1] at HB
    have hP1 : ((P + 1 : Nat) : Int) ≠ (P : Int) := by omega
    by_cases herr : (fixedOf (nat s) (P : Nat)).2 = 0
    · obtain ⟨hr, n, d, hd, hn, ha, hb⟩ := q3 herr
      have hz := readE_zero hr
      rw [herr] at HA HB
      have y : ∀ w, Sem.run Try.prog (Instr.index 9 (.string s) (.int .i64 0)) w = .ok (.int .u8 (wd (nat s) 0 : Nat)) w := fun w => str_at s 0 (by omega) w
      have z1 : (0 : Int) < s.size := by omega
      by_cases h45 : wd (nat s) 0 = 45
      · have hf : fromOf (nat s) = 1 := by unfold fromOf; rw [if_pos h45]
        rw [hf, if_pos rfl] at ha hb
        rw [h45] at y
        rw [ha] at HA
        rw [hb] at HB
        replace HA := fun w => Lib.hid (HA w)
        replace HB := fun w => Lib.hid (HB w)
        have t1 : (-(n : Int)) ≤ 0 := by omega
        have t2 : IntKind.i64.wrap (-(n : Int) * 10) = -(n : Int) * 10 := IntWalk.i64_in _ (by omega)
        have t3 : IntKind.i64.wrap (-(n : Int) * 10 - 10) = -(n : Int) * 10 - 10 := IntWalk.i64_in _ (by omega)
        have t4 : (-((n * 10 + d : Nat) : Int)) ≤ -(n : Int) * 10 := by omega
        have t5 : -(n : Int) * 10 - 10 < (-((n * 10 + d : Nat) : Int)) := by omega
        generalize (-((n * 10 + d : Nat) : Int)) = b at *
        generalize (-(n : Int)) = a at *
        generalize ((P + 1 : Nat) : Int) = P1 at *
        clear hr hf ha hb q1 q2 q3 herr hl h45 hout hn hz hs15
        go_enter Try.func4, Try.ntmps4
        go_wp2_with (first | (go_at_call 8; (first | (with_reducible refine (HA _).out.mono ?_) | (with_reducible refine (HB _).out.mono ?_)); rintro e w1 ⟨rfl, g1⟩; replace G := Lib.hid (G.out.trans g1); clear g1) | (go_at_call 5; refine (HK _).out.mono ?_; rintro e w1 ⟨rfl, g1⟩; replace G := Lib.hid (G.out.trans g1); clear g1))
        go_ret
        exact ⟨rfl, G.out⟩
      · have hf : fromOf (nat s) = 0 := by unfold fromOf; rw [if_neg h45]
        rw [hf, if_neg (by decide)] at ha hb
        have em : nat ((⟨#[45]⟩ : ByteArray) ++ s) = 45 :: nat s := by rw [nat_append]; rfl
        have HM := fun w => fld_Fixed ((⟨#[45]⟩ : ByteArray) ++ s) (P : Nat) w (by rw [← nat_length, em, List.length_cons]; omega) (by omega)
        rw [em, minus_ahead (nat s) P (by omega) hf (by omega) herr, ha] at HM
        rw [ha] at HA
        rw [hb] at HB
        replace HA := fun w => Lib.hid (HA w)
        replace HB := fun w => Lib.hid (HB w)
        replace HM := fun w => Lib.hid (HM w)
        have t1 : (0 : Int) ≤ n := by omega
        have t2 : IntKind.i64.wrap ((n : Int) * 10) = (n : Int) * 10 := IntWalk.i64_in _ (by omega)
        have t3 : IntKind.i64.wrap ((n : Int) * 10 + 10) = (n : Int) * 10 + 10 := IntWalk.i64_in _ (by omega)
        have t4 : (n : Int) * 10 ≤ ((n * 10 + d : Nat) : Int) := by omega
        have t5 : ((n * 10 + d : Nat) : Int) < (n : Int) * 10 + 10 := by omega
        have t6 : IntKind.i64.wrap (-(n : Int)) = -(n : Int) := IntWalk.i64_in _ (by omega)
        have u1 : ¬ ((wd (nat s) 0 : Nat) : Int) = 45 := by omega
        have u2 : (((wd (nat s) 0 : Nat) : Int) == 45) = false := by simpa using u1
        generalize ((n * 10 + d : Nat) : Int) = b at *
        generalize (n : Int) = a at *
        generalize ((P + 1 : Nat) : Int) = P1 at *
        clear hr hf ha hb q1 q2 q3 herr hl h45 hout hn em hz
        generalize wd (nat s) 0 = c0 at *
        go_enter Try.func4, Try.ntmps4
        go_wp2_with (first | (go_at_call 8; (first | (with_reducible refine (HA _).out.mono ?_) | (with_reducible refine (HB _).out.mono ?_) | (with_reducible refine (HM _).out.mono ?_)); rintro e w1 ⟨rfl, g1⟩; replace G := Lib.hid (G.out.trans g1); clear g1) | (go_at_call 5; refine (HK _).out.mono ?_; rintro e w1 ⟨rfl, g1⟩; replace G := Lib.hid (G.out.trans g1); clear g1))
        go_ret
        exact ⟨rfl, G.out⟩
    · obtain ⟨ha, hb⟩ := q2 herr
      rw [ha] at HA
      rw [hb] at HB
      generalize (fixedOf (nat s) (P : Nat)).2 = er at *
      have u1 : ¬ (er : Int) = 0 := by omega
      have u2 : ((er : Int) == 0) = false := by simpa using u1
      have u3 : ((er : Int) != 0) = true := by simpa using u1
      replace HA := fun w => Lib.hid (HA w)
      replace HB := fun w => Lib.hid (HB w)
      generalize ((P + 1 : Nat) : Int) = P1 at *
      clear ha hb q1 q2 q3 herr hl hout
      go_enter Try.func4, Try.ntmps4
      go_wp2_with (first | (go_at_call 8; (first | (with_reducible refine (HA _).out.mono ?_) | (with_reducible refine (HB _).out.mono ?_)); rintro e w1 ⟨rfl, g1⟩; replace G := Lib.hid (G.out.trans g1); clear g1) | (go_at_call 5; refine (HK _).out.mono ?_; rintro e w1 ⟨rfl, g1⟩; replace G := Lib.hid (G.out.trans g1); clear g1))
      go_ret
      exact ⟨rfl, G.out⟩
end Go.Proofs.Ytbgepjhnnlippaa

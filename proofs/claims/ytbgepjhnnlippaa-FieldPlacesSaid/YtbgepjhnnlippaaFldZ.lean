/-
  The laws of fields: one place more.
-/
import Derived.Test.YtbgepjhnnlippaaFldX
namespace Go.Proofs.Ytbgepjhnnlippaa
open Go.RowKit
set_option linter.unusedVariables false

theorem places_next (S : List Nat) (P : Nat) (hP : P ≤ 8) : (fixedOf S (P : Nat)).2 = (fixedOf S ((P + 1 : Nat) : Int)).2 ∧ ((fixedOf S (P : Nat)).2 ≠ 0 → (fixedOf S (P : Nat)).1 = 0 ∧ (fixedOf S ((P + 1 : Nat) : Int)).1 = 0) ∧
    ((fixedOf S (P : Nat)).2 = 0 → readE S = 0 ∧ ∃ n d : Nat, d ≤ 9 ∧ n < 10 ^ 17 ∧ (fixedOf S (P : Nat)).1 = (if fromOf S = 1 then -(n : Int) else n) ∧ (fixedOf S ((P + 1 : Nat) : Int)).1 = (if fromOf S = 1 then -((n * 10 + d : Nat) : Int) else ((n * 10 + d : Nat) : Int))) := by
  by_cases hr : readE S = 0
  · rw [fixed_body S P hr (by omega), fixed_body S (P + 1) hr (by omega)]
    unfold fixedBody
    by_cases hbad : digs S (fromOf S) (pointOf S) = false ∨ (pointOf S < S.length ∧ digs S (pointOf S + 1) S.length = false)
    · rw [if_pos hbad, if_pos hbad]
      exact ⟨rfl, fun _ => ⟨rfl, rfl⟩, fun h => by cases h⟩
    · rw [if_neg hbad, if_neg hbad]
      by_cases h9 : 9 < pointOf S - fromOf S
      · rw [if_pos h9, if_pos h9]
        exact ⟨rfl, fun _ => ⟨rfl, rfl⟩, fun h => by cases h⟩
      · rw [if_neg h9, if_neg h9]
        refine ⟨rfl, fun h => absurd rfl h, fun _ => ⟨hr, ?_⟩⟩
        have hle := pointOf_le S
        have d1 : digs S (fromOf S) (pointOf S) = true := by cases h : digs S (fromOf S) (pointOf S); exact absurd (.inl h) hbad; rfl
        have d2 : pointOf S < S.length → digs S (pointOf S + 1) S.length = true := fun h => by cases h2 : digs S (pointOf S + 1) S.length; exact absurd (.inr ⟨h, h2⟩) hbad; rfl
        have hdA := digs_all (S := S) (by omega) d1
        have h1 := numOf_lt S (fromOf S) (pointOf S - fromOf S) (fun i h h' => hdA i h (by omega))
        have h2 : numOf S (fromOf S) (pointOf S - fromOf S) < 10 ^ 9 := Nat.lt_of_lt_of_le h1 (Nat.pow_le_pow_right (by omega) (by omega))
        have h3 := fixN_lt S (pointOf S) _ h2 (fun i h h' => digs_all (S := S) (by omega) (d2 (by omega)) i (by omega) (by omega)) P
        have h4 := Nat.lt_of_lt_of_le h3 (Nat.pow_le_pow_right (by omega) (show 9 + P ≤ 17 by omega))
        refine ⟨_, if pointOf S + (P + 1) < S.length then wd S (pointOf S + (P + 1)) - 48 else 0, ?_, h4, rfl, ?_⟩
        · split
          · rename_i hlt
            have := digs_all (S := S) (by omega) (d2 (by omega)) (pointOf S + (P + 1)) (by omega) hlt
            unfold isDig at this
            simp at this
            omega
          · omega
        · rw [fixN]
  · unfold fixedOf
    rw [if_pos hr, if_pos hr]
    exact ⟨rfl, fun _ => ⟨rfl, rfl⟩, fun h => absurd h hr⟩
theorem num_cons (S : List Nat) : ∀ k, numOf (45 :: S) 1 k = numOf S 0 k
  | 0 => rfl
  | k + 1 => by
    rw [numOf, numOf, num_cons S k]
    have : wd (45 :: S) (1 + k) = wd S (0 + k) := by unfold wd; rw [Nat.add_comm 1 k, Nat.zero_add]; rfl
    rw [this]
theorem fix_cons (S : List Nat) (p base : Nat) : ∀ k, fixN (45 :: S) (p + 1) base k = fixN S p base k
  | 0 => rfl
  | k + 1 => by
    rw [fixN, fixN, fix_cons S p base k]
    have e : wd (45 :: S) (p + 1 + (k + 1)) = wd S (p + (k + 1)) := by unfold wd; rw [show p + 1 + (k + 1) = (p + (k + 1)) + 1 by omega]; rfl
    rw [e, List.length_cons]
    by_cases h : p + (k + 1) < S.length
    · rw [if_pos h, if_pos (by omega)]
    · rw [if_neg h, if_neg (by omega)]
theorem minus_ahead (S : List Nat) (P : Nat) (hP : P ≤ 9) (hf : fromOf S = 0) (hl : S.length ≤ 15) (h0 : (fixedOf S (P : Nat)).2 = 0) : fixedOf (45 :: S) (P : Nat) = (-(fixedOf S (P : Nat)).1, 0) := by
  have hr : readE S = 0 := by
    by_cases hr : readE S = 0
    · exact hr
    · unfold fixedOf at h0
      rw [if_pos hr] at h0
      exact absurd h0 hr
  have hr2 : readE (45 :: S) = 0 := by
    unfold readE
    rw [List.length_cons, if_neg (by omega), if_neg (by omega)]
  have e1 : fromOf (45 :: S) = 1 := rfl
  have e2 : pointOf (45 :: S) = pointOf S + 1 := by rw [point_place, point_place, placeOf]; rfl
  have e3 : ∀ b, digs (45 :: S) 1 (b + 1) = digs S 0 b := fun b => by
    unfold digs
    rw [List.drop_succ_cons, Nat.add_sub_cancel, Nat.sub_zero]
    congr 1
    rw [decide_eq_decide]
    omega
  have e4 : ∀ a b, digs (45 :: S) (a + 1) (b + 1) = digs S a b := fun a b => by
    unfold digs
    rw [List.drop_succ_cons, show b + 1 - (a + 1) = b - a by omega]
    congr 1
    rw [decide_eq_decide]
    omega
  rw [fixed_body S P hr hP, hf] at h0 ⊢
  rw [fixed_body (45 :: S) P hr2 hP, e1]
  unfold fixedBody at h0 ⊢
  rw [e2, List.length_cons, e3, e4, fix_cons, Nat.add_sub_cancel, num_cons, Nat.sub_zero]
  rw [Nat.sub_zero] at h0
  by_cases hbad : digs S 0 (pointOf S) = false ∨ (pointOf S < S.length ∧ digs S (pointOf S + 1) S.length = false)
  · rw [if_pos hbad] at h0
    cases h0
  · rw [if_neg hbad] at h0 ⊢
    by_cases h9 : 9 < pointOf S
    · rw [if_pos h9] at h0
      cases h0
    · rw [if_neg h9, if_neg (fun h => hbad (by rcases h with h | h; exact .inl h; exact .inr ⟨by omega, h.2⟩)), if_neg h9]
      rfl
end Go.Proofs.Ytbgepjhnnlippaa

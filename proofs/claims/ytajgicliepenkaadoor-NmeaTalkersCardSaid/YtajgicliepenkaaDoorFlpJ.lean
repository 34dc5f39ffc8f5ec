/-
  The program's fields: numbers with places.
-/
import Derived.Test.YtajgicliepenkaaDoorFlpI
namespace Go.Proofs.YtajgicliepenkaaDoor
open Go.RowKit
set_option linter.unusedVariables false

/-- What the program has of a text that may be a number with places: its digits all are, and how many. -/
theorem fix_bad (s : ByteArray) (hr : 0 < s.size) : ∃ p, pointOf (nat (s.extract (fromOf (nat s)) s.size)) = p ∧ p ≤ s.size - fromOf (nat s) ∧ pointOf (nat s) = p + fromOf (nat s) ∧
    ((digs (nat (s.extract (fromOf (nat s)) s.size)) 0 p = false ∨ (p < (s.extract (fromOf (nat s)) s.size).size ∧ digs (nat (s.extract (fromOf (nat s)) s.size)) (p + 1) (s.extract (fromOf (nat s)) s.size).size = false)) ↔
      (digs (nat s) (fromOf (nat s)) (pointOf (nat s)) = false ∨ (pointOf (nat s) < s.size ∧ digs (nat s) (pointOf (nat s) + 1) s.size = false))) := by
  have hl := nat_length s
  obtain ⟨h1, h2⟩ := point_drop (nat s) (by omega)
  have hle := pointOf_le (nat s)
  have hf := from_le (nat s)
  have e : nat (s.extract (fromOf (nat s)) s.size) = (nat s).drop (fromOf (nat s)) := by rw [nat_extract, List.take_of_length_le (by omega)]
  rw [e, size_extract, h2]
  generalize pointOf (nat s) = p at *
  generalize fromOf (nat s) = f at *
  refine ⟨p - f, rfl, by omega, by omega, ?_⟩
  rw [digs_drop _ f 0 (p - f) (by omega), digs_drop _ f (p - f + 1) (min s.size s.size - f) (by omega), show f + 0 = f by omega, show f + (p - f) = p by omega, show f + (p - f + 1) = p + 1 by omega, show f + (min s.size s.size - f) = s.size by omega]
  constructor
  · rintro (h | ⟨h, h'⟩)
    · exact .inl h
    · exact .inr ⟨by omega, h'⟩
  · rintro (h | ⟨h, h'⟩)
    · exact .inl h
    · exact .inr ⟨by omega, h'⟩
/-- The number of the program's digits is the document's. -/
theorem fix_num (s : ByteArray) (P p : Nat) (hr : 0 < s.size) (hp : pointOf (nat s) = p + fromOf (nat s)) (hok : ¬ (digs (nat s) (fromOf (nat s)) (pointOf (nat s)) = false ∨ (pointOf (nat s) < s.size ∧ digs (nat s) (pointOf (nat s) + 1) s.size = false)))
    (A B : ByteArray) (hA : A = (s.extract (fromOf (nat s)) s.size).extract 0 p) (hB : B = (s.extract (fromOf (nat s)) s.size).extract (p + 1) (s.extract (fromOf (nat s)) s.size).size) (K : ByteArray) (hK : K = (B ++ ⟨(Lib.repeatL [48] P).toArray⟩).extract 0 P) :
    A.size = p ∧ (A ++ K).size = p + P ∧ (nat (A ++ K)).all isDig = true ∧ numOf (nat (A ++ K)) 0 (A ++ K).size = fixN (nat s) (pointOf (nat s)) (numOf (nat s) (fromOf (nat s)) (pointOf (nat s) - fromOf (nat s))) P := by
  have hl := nat_length s
  have hle := pointOf_le (nat s)
  have hf := from_le (nat s)
  have e : nat (s.extract (fromOf (nat s)) s.size) = (nat s).drop (fromOf (nat s)) := by rw [nat_extract, List.take_of_length_le (by omega)]
  have d1 : digs (nat s) (fromOf (nat s)) (pointOf (nat s)) = true := by cases h : digs (nat s) (fromOf (nat s)) (pointOf (nat s)); exact absurd (.inl h) hok; rfl
  have d2 : pointOf (nat s) < s.size → digs (nat s) (pointOf (nat s) + 1) s.size = true := fun h => by cases h2 : digs (nat s) (pointOf (nat s) + 1) s.size; exact absurd (.inr ⟨h, h2⟩) hok; rfl
  have nA : nat A = ((nat s).drop (fromOf (nat s))).take p := by rw [hA, nat_extract, e, List.drop_zero]
  have e3 : ((nat s).drop (fromOf (nat s))).take (min s.size s.size - fromOf (nat s)) = (nat s).drop (fromOf (nat s)) := List.take_of_length_le (by rw [List.length_drop]; omega)
  have nK : nat K = keptOf (nat s) (pointOf (nat s)) P := by
    rw [hK, nat_extract, List.drop_zero, nat_append, rep_zero, hB, nat_extract, e, size_extract, e3, List.drop_drop, hp]
    unfold keptOf
    rw [show fromOf (nat s) + (p + 1) = p + fromOf (nat s) + 1 by omega]
  have lA : (nat A).length = p := by rw [nA, List.length_take, List.length_drop]; omega
  have lK : (nat K).length = P := by rw [nK, kept_len]
  have wA : ∀ i, i < p → wd (nat A) i = wd (nat s) (fromOf (nat s) + i) := fun i hi => by
    rw [nA]; unfold wd
    rw [List.getD_eq_getElem?_getD, List.getD_eq_getElem?_getD, List.getElem?_take_of_lt hi, List.getElem?_drop]
  have hdA := digs_all (S := nat s) (by omega) d1
  have sz : (A ++ K).size = p + P := by rw [← nat_length, nat_append, List.length_append, lA, lK]
  refine ⟨by rw [← nat_length]; exact lA, sz, ?_, ?_⟩
  · rw [nat_append, List.all_append, Bool.and_eq_true]
    refine ⟨all_iff.2 fun i hi => ?_, all_iff.2 fun i hi => ?_⟩
    · rw [wA i (by omega)]
      exact hdA _ (by omega) (by omega)
    · rw [nK, kept_wd _ _ _ _ (by omega)]
      by_cases hin : pointOf (nat s) + (i + 1) < (nat s).length
      · rw [if_pos hin]
        exact digs_all (S := nat s) (by omega) (d2 (by omega)) _ (by omega) (by omega)
      · rw [if_neg hin]; rfl
  · rw [sz, nat_append, ← lA]
    refine num_fix (nat s) (nat A) (nat K) (fromOf (nat s)) (pointOf (nat s)) P (by omega) (fun i hi => wA i (by omega)) (fun k hk => ?_) P (Nat.le_refl _)
    rw [nK, kept_wd _ _ _ _ hk]
theorem fix_lt (s : ByteArray) (P : Nat) (hP : P ≤ 9) (h9 : ¬ 9 < pointOf (nat s) - fromOf (nat s)) (hok : ¬ (digs (nat s) (fromOf (nat s)) (pointOf (nat s)) = false ∨ (pointOf (nat s) < s.size ∧ digs (nat s) (pointOf (nat s) + 1) s.size = false))) :
    fixN (nat s) (pointOf (nat s)) (numOf (nat s) (fromOf (nat s)) (pointOf (nat s) - fromOf (nat s))) P < 10 ^ 18 := by
  have hl := nat_length s
  have hle := pointOf_le (nat s)
  have d1 : digs (nat s) (fromOf (nat s)) (pointOf (nat s)) = true := by cases h : digs (nat s) (fromOf (nat s)) (pointOf (nat s)); exact absurd (.inl h) hok; rfl
  have d2 : pointOf (nat s) < s.size → digs (nat s) (pointOf (nat s) + 1) s.size = true := fun h => by cases h2 : digs (nat s) (pointOf (nat s) + 1) s.size; exact absurd (.inr ⟨h, h2⟩) hok; rfl
  have hdA := digs_all (S := nat s) (by omega) d1
  have h1 := numOf_lt (nat s) (fromOf (nat s)) (pointOf (nat s) - fromOf (nat s)) (fun i h h' => hdA i h (by omega))
  have h2 : numOf (nat s) (fromOf (nat s)) (pointOf (nat s) - fromOf (nat s)) < 10 ^ 9 := Nat.lt_of_lt_of_le h1 (Nat.pow_le_pow_right (by omega) (by omega))
  have h3 := fixN_lt (nat s) (pointOf (nat s)) _ h2 (fun i h h' => digs_all (S := nat s) (by omega) (d2 (by omega)) i (by omega) (by omega)) P
  exact Nat.lt_of_lt_of_le h3 (Nat.pow_le_pow_right (by omega) (by omega))
end Go.Proofs.YtajgicliepenkaaDoor

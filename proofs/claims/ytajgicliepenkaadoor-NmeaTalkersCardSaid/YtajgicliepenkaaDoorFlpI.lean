/-
  The program's fields: numbers with places, as plain lists.
-/
import Derived.Test.YtajgicliepenkaaDoorFlpG
import Derived.Test.YtajgicliepenkaaDoorFldT
import Derived.Lib.Repeat
namespace Go.Proofs.YtajgicliepenkaaDoor
open Go.RowKit
set_option linter.unusedVariables false

theorem wd_append_lt (A K : List Nat) (i : Nat) (h : i < A.length) : wd (A ++ K) i = wd A i := by
  unfold wd
  rw [List.getD_eq_getElem?_getD, List.getD_eq_getElem?_getD, List.getElem?_append_left h]
theorem wd_append_ge (A K : List Nat) (k : Nat) : wd (A ++ K) (A.length + k) = wd K k := by
  unfold wd
  rw [List.getD_eq_getElem?_getD, List.getD_eq_getElem?_getD, List.getElem?_append_right (by omega), Nat.add_sub_cancel_left]
theorem num_ahead (S A K : List Nat) (f p : Nat) (hA : A.length = p - f) (h1 : ∀ i, i < p - f → wd A i = wd S (f + i)) : ∀ k, k ≤ p - f → numOf (A ++ K) 0 k = numOf S f k
  | 0, _ => rfl
  | k + 1, h => by rw [numOf, numOf, num_ahead S A K f p hA h1 k (by omega), Nat.zero_add, wd_append_lt A K k (by omega), h1 k (by omega)]
theorem num_fix (S A K : List Nat) (f p P : Nat) (hA : A.length = p - f) (h1 : ∀ i, i < p - f → wd A i = wd S (f + i)) (h2 : ∀ k, k < P → wd K k = if p + (k + 1) < S.length then wd S (p + (k + 1)) else 48) :
    ∀ k, k ≤ P → numOf (A ++ K) 0 (A.length + k) = fixN S p (numOf S f (p - f)) k
  | 0, _ => by rw [Nat.add_zero, num_ahead S A K f p hA h1 A.length (by omega), hA]; rfl
  | k + 1, h => by
    rw [← Nat.add_assoc, numOf, fixN, num_fix S A K f p P hA h1 h2 k (by omega), Nat.zero_add, wd_append_ge, h2 k (by omega)]
    split <;> rfl
/-- What stands behind a point, with so many zeros, so many digits of it. -/
def keptOf (S : List Nat) (p P : Nat) : List Nat := (S.drop (p + 1) ++ List.replicate P 48).take P
theorem kept_len (S : List Nat) (p P : Nat) : (keptOf S p P).length = P := by
  unfold keptOf
  rw [List.length_take, List.length_append, List.length_replicate]
  omega
theorem kept_wd (S : List Nat) (p P k : Nat) (h : k < P) : wd (keptOf S p P) k = if p + (k + 1) < S.length then wd S (p + (k + 1)) else 48 := by
  unfold keptOf wd
  rw [List.getD_eq_getElem?_getD, List.getElem?_take_of_lt h]
  by_cases hk : p + (k + 1) < S.length
  · rw [if_pos hk, List.getElem?_append_left (by rw [List.length_drop]; omega), List.getElem?_drop, show p + 1 + k = p + (k + 1) by omega, ← List.getD_eq_getElem?_getD]
  · rw [if_neg hk, List.getElem?_append_right (by rw [List.length_drop]; omega), List.getElem?_replicate_of_lt (by omega)]
    rfl
theorem rep_zero : ∀ P, nat ⟨(Lib.repeatL [48] P).toArray⟩ = List.replicate P 48
  | 0 => rfl
  | P + 1 => by
    rw [nat_mk, Lib.repeatL, List.map_append, List.replicate_succ]
    show [48] ++ List.map UInt8.toNat (Lib.repeatL [48] P) = _
    have := rep_zero P
    rw [nat_mk] at this
    rw [this]; rfl
theorem digs_drop (S : List Nat) (f a b : Nat) (hb : f + b ≤ S.length) : digs (S.drop f) a b = digs S (f + a) (f + b) := by
  unfold digs
  rw [List.drop_drop, show f + b - (f + a) = b - a by omega]
  congr 1
  rw [decide_eq_decide]
  omega
theorem from_le (S : List Nat) : fromOf S ≤ 1 := by unfold fromOf; split <;> omega
theorem point_drop (S : List Nat) (h : 0 < S.length) : fromOf S ≤ pointOf S ∧ pointOf (S.drop (fromOf S)) = pointOf S - fromOf S := by
  cases S with
  | nil => simp at h
  | cons x S =>
    by_cases hx : x = 45
    · subst hx
      have e : fromOf (45 :: S) = 1 := rfl
      have e2 : pointOf (45 :: S) = pointOf S + 1 := by rw [point_place, point_place, placeOf]; rfl
      rw [e, e2]
      exact ⟨by omega, by simp⟩
    · have e : fromOf (x :: S) = 0 := by unfold fromOf wd; simp [hx]
      rw [e]
      exact ⟨by omega, by simp⟩
theorem cut_minus (s : ByteArray) (h : 0 < s.size) : (⟨(Lib.trimPrefix s.data.toList [45]).toArray⟩ : ByteArray) = s.extract (fromOf (nat s)) s.size ∧ Lib.hasPrefix s.data.toList [45] = decide (fromOf (nat s) = 1) := by
  have hl := nat_length s
  have e : nat s = s.data.toList.map UInt8.toNat := rfl
  have hpre : Lib.hasPrefix s.data.toList [45] = decide (fromOf (nat s) = 1) := by
    unfold fromOf wd
    rw [e]
    cases hL : s.data.toList with
    | nil => rw [e, hL] at hl; simp at hl; omega
    | cons x L =>
      show ([45] : List UInt8).isPrefixOf (x :: L) = _
      by_cases hx : x = 45
      · subst hx; simp [List.isPrefixOf]
      · have hx2 : ¬ x.toNat = 45 := fun h => hx (UInt8.toNat_inj.1 h)
        have hx3 : ((45 : UInt8) == x) = false := by simpa using fun h => hx h.symm
        simp [List.isPrefixOf, hx2, hx3]
  refine ⟨nat_ext ?_, hpre⟩
  rw [nat_extract, List.take_of_length_le (by omega), nat_mk]
  unfold Lib.trimPrefix
  rw [hpre]
  rcases (show fromOf (nat s) = 0 ∨ fromOf (nat s) = 1 by have := from_le (nat s); omega) with hf | hf
  · rw [hf]; rfl
  · rw [hf, if_pos (by decide), List.map_drop]; rfl
end Go.Proofs.YtajgicliepenkaaDoor

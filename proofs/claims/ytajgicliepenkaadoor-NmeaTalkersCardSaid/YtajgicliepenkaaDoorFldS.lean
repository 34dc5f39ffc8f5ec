/-
  The document's fields: numbers, hex digits, points, numbers with places.
-/
import Derived.Test.YtajgicliepenkaaDoorFldR
namespace Go.Proofs.YtajgicliepenkaaDoor
open Go.RowKit
set_option linter.unusedVariables false

theorem ret_two {k l : IntKind} {a b c d : Int} (h : a = c) (h2 : b = d) : Ending.returned (.tuple #[.int k a, .int l b]) = .returned (.tuple #[.int k c, .int l d]) := by rw [h, h2]
theorem digs_all {S : List Nat} {a b : Nat} (hb : b ≤ S.length) (h : digs S a b = true) : ∀ i, a ≤ i → i < b → isDig (wd S i) = true := ((digs_iff hb).1 h).2

theorem readE_zero {s : ByteArray} (h : readE (nat s) = 0) : 1 ≤ s.size ∧ s.size ≤ 20 := by
  unfold readE at h
  rw [nat_length] at h
  by_cases h0 : s.size = 0
  · rw [if_pos h0] at h; omega
  · rw [if_neg h0] at h
    by_cases h1 : 20 < s.size
    · rw [if_pos h1] at h; omega
    · omega
theorem readE_le (S : List Nat) : readE S ≤ 9 := by unfold readE; repeat' split
                                                    all_goals omega
theorem all_iff {S : List Nat} {p : Nat → Bool} : S.all p = true ↔ ∀ i, i < S.length → p (wd S i) = true := by
  rw [List.all_eq_true]
  refine ⟨fun h i hi => by rw [wd_lt hi]; exact h _ (List.getElem_mem hi), fun h x hx => ?_⟩
  obtain ⟨i, hi, rfl⟩ := List.getElem_of_mem hx
  have := h i hi
  rwa [wd_lt hi] at this

end Go.Proofs.YtajgicliepenkaaDoor

/-
  The document's frames: what stands at a ring's begin.
-/
import Derived.Test.YtkoklmecijejkaaFrmC
import Derived.Test.YtkoklmecijejkaaFrmD
import Derived.Test.YtkoklmecijejkaaFrmE
namespace Go.Proofs.Ytkoklmecijejkaa
open Go.RowKit
set_option linter.unusedVariables false

theorem ref08_body (bv : Value) (L : List Nat) (size : Nat) (w : World) (hR : Row .u8 w bv L) (hB : Bytes L) (hl : L.length ≤ 5000) (h0 : 0 < L.length) (hs : size ≤ 100000) :
    Calls Try.prog 42 #[bv, .int .i64 size] w (BodyTells size L w) := by
  by_cases h1 : wd L 0 = 36
  · exact ref08_body1 bv L size w hR hB hl h0 hs h1
  · by_cases h2 : wd L 0 = 181
    · by_cases h3 : 1 < L.length ∧ wd L 1 ≠ 98
      · exact ref08_body2_wrong bv L size w hR hB hl h3.1 hs h2 h3.2
      · have h3' : 1 < L.length → wd L 1 = 98 := fun h => by
          rcases Nat.decEq (wd L 1) 98 with h' | h'
          · exact absurd ⟨h, h'⟩ h3
          · exact h'
        by_cases h4 : L.length < 6
        · exact ref08_body2_short bv L size w hR hB hl h0 hs h2 h3' h4
        · exact ref08_body2_long bv L size w hR hB hl (by omega) hs h2 (h3' (by omega))
    · by_cases h5 : wd L 0 = 160
      · by_cases h3 : 1 < L.length ∧ wd L 1 ≠ 162
        · exact ref08_body3_wrong bv L size w hR hB hl h3.1 hs h5 h3.2
        · have h3' : 1 < L.length → wd L 1 = 162 := fun h => by
            rcases Nat.decEq (wd L 1) 162 with h' | h'
            · exact absurd ⟨h, h'⟩ h3
            · exact h'
          by_cases h4 : L.length < 4
          · exact ref08_body3_short bv L size w hR hB hl h0 hs h5 h3' h4
          · exact ref08_body3_long bv L size w hR hB hl (by omega) hs h5 (h3' (by omega))
      · exact ref08_body0 bv L size w hR hB hl h0 hs h1 h2 h5
theorem ref08_Bytes (k : Nat) (fv : Value) (ns : List Nat) (w : World) (hR : Row .u8 w fv ns) (hB : Bytes ns) (hl : ns.length ≤ 5000) (hk : k < 256) :
    Calls Try.prog 16 #[.agg #[.int .u8 k, fv]] w (BytesTells k ns w) := by
  by_cases h1 : k = 1
  · subst h1; exact ref08_Bytes1 fv ns w hR hB hl
  · by_cases h2 : k = 2
    · subst h2; exact ref08_Bytes2 fv ns w hR hB hl
    · by_cases h3 : k = 3
      · subst h3; exact ref08_Bytes3 fv ns w hR hB hl
      · exact ref08_Bytes0 k fv ns w hR hl hk h1 h2 h3

def BeginTells (size : Nat) (L : List Nat) (w : World) (e : Ending) (w' : World) : Prop :=
  ∃ (k n : Nat) (A : Option Addr) (m c : Nat), e = .returned (.tuple #[.int .i64 ((standOf size L).1 : Nat), .agg #[.int .u8 k, .slice A m c], .int .i64 n]) ∧ k < 256 ∧ n ≤ 6000 ∧ ((standOf size L).1 = 1 → k = (standOf size L).2.1 ∧ n = (standOf size L).2.2.2 ∧ Own w.heap.size 5 .u8 w' (.slice A m c) (standOf size L).2.2.1) ∧ Grew w w'

theorem body_kind (size : Nat) (L : List Nat) : (bodyOf size L).1 < 256 := by
  unfold bodyOf
  repeat' split
  all_goals omega
theorem body_bytes {size : Nat} {L : List Nat} (hB : Bytes L) : Bytes (bodyOf size L).2.1 := by
  have hm : ∀ x ∈ L, x < 256 := fun x hx => by
    obtain ⟨i, hi, rfl⟩ := List.getElem_of_mem hx
    have := hB i
    rwa [wd_lt hi] at this
  refine Bytes.of_mem (fun x hx => ?_)
  unfold bodyOf at hx
  have ht : ∀ m, x ∈ (L.drop m).takeWhile may → x < 256 := fun m h => hm x (List.mem_of_mem_drop ((List.takeWhile_sublist _).mem h))
  have hd : ∀ m n, x ∈ (L.drop m).take n → x < 256 := fun m n h => hm x (List.mem_of_mem_drop (List.mem_of_mem_take h))
  repeat' split at hx
  all_goals (try (simp at hx; done))
  all_goals (try (exact ht _ hx))
  all_goals (try (exact hd _ _ hx))
  simp only [List.mem_cons] at hx
  rcases hx with rfl | rfl | hx
  · exact hB 2
  · exact hB 3
  · exact hd _ _ hx
theorem body_len {size : Nat} {L : List Nat} : (bodyOf size L).2.1.length ≤ L.length + 2 := by
  have ht : ((L.drop 1).takeWhile may).length ≤ L.length := Nat.le_trans (List.takeWhile_sublist _).length_le (by simp)
  unfold bodyOf
  repeat' split
  all_goals simp only [List.length_nil, List.length_cons, List.length_take, List.length_drop]
  all_goals omega
end Go.Proofs.Ytkoklmecijejkaa

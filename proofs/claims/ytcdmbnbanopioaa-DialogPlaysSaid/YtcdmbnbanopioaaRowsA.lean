/-
  A slice of rows of bytes, one behind the other.
-/
import Derived.Test.YtcdmbnbanopioaaFar
import Derived.Test.YtcdmbnbanopioaaSumM
namespace Go.Proofs.Ytcdmbnbanopioaa
open Go.RowKit
set_option linter.unusedVariables false

/-- A slice of rows of bytes. -/
def RowsAt (w : World) (v : Value) (bss : List (List Nat)) : Prop :=
  ∃ A c, v = .slice A bss.length c ∧ bss.length ≤ c ∧ (0 < bss.length → ∃ b o, A = some ⟨b, o, none⟩ ∧ b < w.heap.size ∧ ∀ i, i < bss.length → ∃ A' c', w.cell? ⟨b, o + i, none⟩ = some (.slice A' (bss.getD i []).length c') ∧ Row .u8 w (.slice A' (bss.getD i []).length c') (bss.getD i []))
theorem RowsAt.grew {w w' : World} {v : Value} {bss : List (List Nat)} (h : RowsAt w v bss) (g : Grew w w') : RowsAt w' v bss := by
  obtain ⟨A, c, rfl, hc, hr⟩ := h
  refine ⟨A, c, rfl, hc, fun hn => ?_⟩
  obtain ⟨b, o, rfl, hb, hcell⟩ := hr hn
  refine ⟨b, o, rfl, Nat.lt_of_lt_of_le hb g.size, fun i hi => ?_⟩
  obtain ⟨A', c', h1, h2⟩ := hcell i hi
  exact ⟨A', c', (g.cell (p := ⟨b, o + i, none⟩) hb).trans h1, h2.grew g⟩

/-- The first k rows, one behind the other. -/
def cat (bss : List (List Nat)) : Nat → List Nat
  | 0 => []
  | k + 1 => cat bss k ++ bss.getD k []
theorem cat_bytes {bss : List (List Nat)} (hB : ∀ i, Bytes (bss.getD i [])) : ∀ k, Bytes (cat bss k)
  | 0 => Bytes.of_mem (by simp [cat])
  | k + 1 => fun i => by
    by_cases h : i < (cat bss k).length
    · rw [cat, wd_append_left h]; exact cat_bytes hB k i
    · obtain ⟨j, rfl⟩ : ∃ j, i = (cat bss k).length + j := ⟨i - (cat bss k).length, by omega⟩
      rw [cat, wd_append_right]; exact hB k j
theorem cat_mono (bss : List (List Nat)) : ∀ d k, (cat bss k).length ≤ (cat bss (k + d)).length
  | 0, _ => Nat.le_refl _
  | d + 1, k => by
    have := cat_mono bss d k
    rw [show k + (d + 1) = k + d + 1 by omega, cat, List.length_append]; omega
end Go.Proofs.Ytcdmbnbanopioaa

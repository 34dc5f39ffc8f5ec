/-
  What the program's log of edges tells, as the laws ask it; the page's example.
-/
import Derived.Test.YtkijonnbngnliaaEdgD
import Derived.Test.YtkijonnbngnliaaEdrB
namespace Go.Proofs.Ytkijonnbngnliaa
open Go.RowKit
set_option linter.unusedVariables false

/-- The program's log from the o-th cell on of block g holds the edges L. -/
def LogR (w : World) (g o : Nat) (L : List Int) : Prop := ∃ ks f n, LogAt w g o ks f n ∧ logL ks f n = L
section
variable {F : Nat → Prop} {w w' : World} {g o : Nat} {L : List Int}
theorem LogR.far (h : LogR w g o L) (k : Far F w w') (hg : ¬ F g) : LogR w' g o L := by
  obtain ⟨ks, f, n, a, b⟩ := h
  exact ⟨ks, f, n, a.far k hg, b⟩
theorem LogR.grew (h : LogR w g o L) (k : Grew w w') : LogR w' g o L := h.far (F := fun _ => False) (Far.of_grew k) (fun q => q)
theorem LogR.lt (h : LogR w g o L) : g < w.heap.size := by
  obtain ⟨ks, f, n, a, b⟩ := h
  exact a.lt
theorem LogR.len (h : LogR w g o L) : L.length ≤ 8 := by
  obtain ⟨ks, f, n, a, b⟩ := h
  rw [← b, logL_length]
  exact a.hn
end
theorem log_New (w : World) : Calls Try.prog 15 #[] w fun e w' => e = .returned (.pointer (some ⟨w.heap.size, 0, none⟩)) ∧ LogR w' w.heap.size 0 [] ∧ Grew w w' :=
  (edge_New w).mono fun _ _ ⟨a, b, c⟩ => ⟨a, ⟨_, _, _, b, rfl⟩, c⟩
theorem log_Copy (w : World) (g o : Nat) (L : List Int) (h : LogR w g o L) : Calls Try.prog 17 #[.pointer (some ⟨g, o, none⟩)] w fun e w' => e = .returned (.pointer (some ⟨w.heap.size, 0, none⟩)) ∧ LogR w' w.heap.size 0 L ∧ Grew w w' := by
  obtain ⟨ks, f, n, a, b⟩ := h
  exact (edge_Copy w g o ks f n a).mono fun _ _ ⟨x, y, z⟩ => ⟨x, ⟨_, _, _, y, b⟩, z⟩
theorem log_Add (w : World) (g o : Nat) (L : List Int) (c : Int) (h : LogR w g o L) (hc : -9223372036854775808 ≤ c ∧ c ≤ 9223372036854775807) :
    Calls Try.prog 27 #[.pointer (some ⟨g, o, none⟩), .int .i64 c] w fun e w' => e = .returned (.int .i64 (if c < lastE L then 2 else 0)) ∧ LogR w' g o (addE L c) ∧ Far (fun b => b = g) w w' := by
  obtain ⟨ks, f, n, a, rfl⟩ := h
  exact (edge_Add w g o ks f n c a hc).mono fun _ _ ⟨x, y, ks', f', n', z, u⟩ => ⟨x, ⟨_, _, _, z, u⟩, y⟩
theorem log_AddOk (w : World) (g o : Nat) (L : List Int) (c : Int) (h : LogR w g o L) (hc : -9223372036854775808 ≤ c ∧ c ≤ 9223372036854775807) (hn : ¬ c < lastE L) :
    Calls Try.prog 27 #[.pointer (some ⟨g, o, none⟩), .int .i64 c] w fun e w' => e = .returned (.int .i64 0) ∧ LogR w' g o (pushE L c) ∧ Far (fun b => b = g) w w' := by
  have := log_Add w g o L c h hc
  unfold addE at this
  rw [if_neg hn, if_neg hn] at this
  exact this
theorem log_AddNo (w : World) (g o : Nat) (L : List Int) (c : Int) (h : LogR w g o L) (hc : -9223372036854775808 ≤ c ∧ c ≤ 9223372036854775807) (hn : c < lastE L) :
    Calls Try.prog 27 #[.pointer (some ⟨g, o, none⟩), .int .i64 c] w fun e w' => e = .returned (.int .i64 2) ∧ LogR w' g o L ∧ Far (fun b => b = g) w w' := by
  have := log_Add w g o L c h hc
  unfold addE at this
  rw [if_pos hn, if_pos hn] at this
  exact this
theorem log_Last (w : World) (g o : Nat) (L : List Int) (h : LogR w g o L) :
    Calls Try.prog 29 #[.pointer (some ⟨g, o, none⟩)] w fun e w' => e = .returned (.tuple #[.int .i64 (lastE L), .bool (decide (0 < L.length))]) ∧ Grew w w' := by
  obtain ⟨ks, f, n, a, rfl⟩ := h
  rw [logL_length]
  exact edge_Last w g o ks f n a
theorem log_Count (w : World) (g o : Nat) (L : List Int) (a b : Int) (h : LogR w g o L) :
    Calls Try.prog 28 #[.pointer (some ⟨g, o, none⟩), .int .i64 a, .int .i64 b] w fun e w' => e = .returned (.int .i64 (cntE L a b L.length : Nat)) ∧ Grew w w' := by
  obtain ⟨ks, f, n, h, rfl⟩ := h
  rw [logL_length]
  exact edge_Count w g o ks f n a b h
theorem kE1 : pushE [] 5 = [5] ∧ pushE [5] 9 = [5, 9] ∧ lastE [] = 0 ∧ lastE [5] = 5 ∧ lastE [5, 9] = 9 ∧ cntE [5, 9] 6 9 2 = 1 := ⟨by decide, by decide, by decide, by decide, by decide, by decide⟩
-- [KNOWN
end Go.Proofs.Ytkijonnbngnliaa

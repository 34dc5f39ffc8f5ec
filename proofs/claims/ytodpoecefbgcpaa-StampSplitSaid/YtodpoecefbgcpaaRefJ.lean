/-
  Contracts of the document's quotients.
-/
import Derived.Test.YtodpoecefbgcpaaRefI
import Derived.Test.YtodpoecefbgcpaaSatA
namespace Go.Proofs.Ytodpoecefbgcpaa
open Go.RowKit
set_option linter.unusedVariables false

theorem up_neg (n d : Int) (hd : 0 < d) : (n + (d - 1)) / d = -((-n) / d) := by
  have h1 := Int.mul_ediv_add_emod (-n) d
  have h2 := Int.emod_nonneg (-n) (show d ≠ 0 by omega)
  have h3 := Int.emod_lt_of_pos (-n) hd
  generalize (-n) / d = q at *
  have e : n + (d - 1) = (d - 1 - (-n) % d) + d * (-q) := by rw [Int.mul_neg]; omega
  rw [e, Int.add_mul_ediv_left _ _ (by omega), Int.ediv_eq_zero_of_lt (by omega) (by omega)]
  omega

/-- A new block of two cells, under one name. -/
theorem one_new (w : World) (a b : Value) (E : TypeId) : ∃ W, w.alloc (.cells #[a, b] E) = W ∧ Grew w W ∧ W.cell? ⟨w.heap.size, 0, none⟩ = some a ∧ W.cell? ⟨w.heap.size, 1, none⟩ = some b ∧ w.heap.size < W.heap.size := by
  refine ⟨_, rfl, (Grew.refl _).alloc _, ?_, ?_, by simp⟩ <;> simp [go_sem]
theorem two_keep {W w' : World} {p : Nat} {a b : Value} (g : Grew W w') (hp : p < W.heap.size) (h1 : W.cell? ⟨p, 0, none⟩ = some a) (h2 : W.cell? ⟨p, 1, none⟩ = some b) : w'.cell? ⟨p, 0, none⟩ = some a ∧ w'.cell? ⟨p, 1, none⟩ = some b :=
  ⟨(g.cell hp).trans h1, (g.cell hp).trans h2⟩



end Go.Proofs.Ytodpoecefbgcpaa

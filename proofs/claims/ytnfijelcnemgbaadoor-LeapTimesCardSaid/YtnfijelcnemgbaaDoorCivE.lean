/-
  Contracts of civil: the moment of a second.
-/
import Derived.Test.YtnfijelcnemgbaaDoorCivD
namespace Go.Proofs.YtnfijelcnemgbaaDoor
open Go.RowKit
set_option linter.unusedVariables false

/-- Six cells of a block, that may be written. -/
def Wet (w : World) (p : Nat) : Prop := w.frozen? ⟨p, 0, none⟩ = false ∧ w.frozen? ⟨p, 1, none⟩ = false ∧ w.frozen? ⟨p, 2, none⟩ = false ∧ w.frozen? ⟨p, 3, none⟩ = false ∧ w.frozen? ⟨p, 4, none⟩ = false ∧ w.frozen? ⟨p, 5, none⟩ = false
theorem Wet.grew {w w' : World} {p : Nat} (h : Wet w p) (hp : p < w.heap.size) (g : Grew w w') : Wet w' p := by
  obtain ⟨h0, h1, h2, h3, h4, h5⟩ := h
  exact ⟨(g.frozen hp).trans h0, (g.frozen hp).trans h1, (g.frozen hp).trans h2, (g.frozen hp).trans h3, (g.frozen hp).trans h4, (g.frozen hp).trans h5⟩
theorem six_wet (w : World) (a b c d e f : Value) (E : TypeId) : ∃ W, w.alloc (.cells #[a, b, c, d, e, f] E) = W ∧ Grew w W ∧ Six W w.heap.size a b c d e f ∧ Wet W w.heap.size := by
  refine ⟨_, rfl, (Grew.refl _).alloc _, ⟨by simp, ?_, ?_, ?_, ?_, ?_, ?_⟩, ?_, ?_, ?_, ?_, ?_, ?_⟩ <;> simp [go_sem]
theorem six_put {w w1 : World} (p : Nat) (g : Grew w w1) (hp : w.heap.size ≤ p) (a b c d e f : Value) :
    Grew w ((((((w1.setCell ⟨p, 0, none⟩ a).setCell ⟨p, 1, none⟩ b).setCell ⟨p, 2, none⟩ c).setCell ⟨p, 3, none⟩ d).setCell ⟨p, 4, none⟩ e).setCell ⟨p, 5, none⟩ f) :=
  (((((g.setCell hp _).setCell hp _).setCell hp _).setCell hp _).setCell hp _).setCell hp _


end Go.Proofs.YtnfijelcnemgbaaDoor

/-
  Slices of integers among the arguments.
-/
import Derived.Test.YtinkmpndlikgfaaRowZ
import Derived.ProofKit
import Derived.OpenShut
namespace Go.Proofs.Ytinkmpndlikgfaa
open Go.RowKit Go.ChangeShapes Go.WideShapes
set_option linter.unusedVariables false

/-- What a slice of integers of kind k among the arguments tells. -/
def ZsIn (k : IntKind) (w : World) (A : Option Addr) (len cap : Nat) (zs : List Int) : Prop := RowZ k w (.slice A len cap) zs ∧ (∀ i, i < zs.length → (Lit.int k (zi zs i)).wf = true) ∧ zs.length = len
theorem ZsIn.none_ (k : IntKind) (w : World) : ZsIn k w none 0 0 [] := ⟨RowZ.nil k w, fun i h => by simp at h, rfl⟩
theorem ZsIn.of {k : IntKind} {w : World} {x : Addr} {len cap : Nat} {zs : List Int} (hl : len ≤ cap) (hz : zs.length = cap) (hcell : ∀ i, i < zs.length → w.cell? (x.add i) = some (.int k (zs.getD i 0)))
    (hw : ∀ n ∈ zs, (Lit.int k n).wf = true) : ZsIn k w (some x) len cap (zs.take len) := by
  have hlen : (zs.take len).length = len := by simp; omega
  have hat : ∀ i, i < len → zi (zs.take len) i = zs.getD i 0 := fun i hi => by
    unfold zi
    rw [List.getD_eq_getElem?_getD, List.getD_eq_getElem?_getD, List.getElem?_take, if_pos hi]
  refine ⟨⟨some x, cap, by rw [hlen], by omega, fun hp => ?_⟩, fun i hi => ?_, hlen⟩
  · rw [hlen] at hp
    have hc0 := hcell 0 (by omega)
    obtain ⟨b, o, spot⟩ := x
    have hs : spot = none := by simpa [Addr.add] using World.cell?_spot hc0
    subst hs
    refine ⟨b, o, rfl, World.block_lt_of_cell? w ⟨b, o, none⟩ (by simpa [Addr.add] using hc0), fun i hi => ?_⟩
    rw [hlen] at hi
    have := hcell i (by omega)
    rw [show (⟨b, o, none⟩ : Addr).add i = ⟨b, o + i, none⟩ by unfold Addr.add; split <;> simp_all] at this
    rw [this, hat i hi]
  · rw [hlen] at hi
    rw [hat i hi]
    refine hw _ ?_
    have hi' : i < zs.length := by omega
    rw [List.getD_eq_getElem?_getD, List.getElem?_eq_getElem hi']
    exact List.getElem_mem hi'
end Go.Proofs.Ytinkmpndlikgfaa

/-
  The program's dialogue: all that its calls tell.
-/
import Derived.Test.YtcdmbnbanopioaaDpgF
import Derived.Test.YtcdmbnbanopioaaDpgL
namespace Go.Proofs.Ytcdmbnbanopioaa
open Go.RowKit
set_option linter.unusedVariables false

theorem dlg_calls : DlgCalls PrgR where
  far := PrgR.far
  lt := PrgR.lt
  apart := PrgR.apart
  ptr := PrgR.ptr
  new := prg_New
  tick := prg_Tick
  frame := prg_Frame
  counts := fun K w v F d hR hok => by
    obtain ⟨g, L, fl, E, W, rfl, hF, hp, H⟩ := hR
    obtain ⟨c1, c2, c3, _⟩ := hp.counts
    have h := prg_Counts H
    rw [List.length_map] at h
    rw [c1, c2, c3]
    cases fl <;> exact h
  flying := fun K w v F d hR hok => by
    obtain ⟨g, L, fl, E, W, rfl, hF, hp, H⟩ := hR
    obtain ⟨_, _, _, c4⟩ := hp.counts
    have h := (prg_Flying H).mono (R' := fun e w' => e = .returned (.bool fl.isSome) ∧ Grew w w') (fun e w' ⟨h1, h2⟩ => ⟨h1, by subst h2; exact Grew.refl _⟩)
    rw [c4]
    cases fl <;> exact h
  copy := fun K w v F d hR hok => by
    obtain ⟨g, L, fl, E, W, rfl, hF, hp, H⟩ := hR
    refine (prg_Copy K w g L fl _ _ _ _ _ _ H).mono ?_
    rintro e w' ⟨p, fl', rfl, h1, h2, h3, h4, h5⟩
    refine ⟨⟨p, 0, none⟩, ownSet p fl', rfl, ⟨p, L, fl', E, W, rfl, fun b => Iff.rfl, by rw [h2]; exact hp, h4⟩, fun b q => ?_, h5⟩
    rcases q with q | ⟨r, q⟩
    · omega
    · exact h3 b r q
  none_tick := fun w t ht => prg_Tick_none w t ht
  none_frame := fun w => prg_Frame_none w
  none_counts := fun w => prg_Counts_none w
  none_flying := fun w => (prg_Flying_none w).mono (fun e w' ⟨h1, h2⟩ => ⟨h1, by subst h2; exact Grew.refl _⟩)
  none_copy := fun w => prg_Copy_none w
end Go.Proofs.Ytcdmbnbanopioaa

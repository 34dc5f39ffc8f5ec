/-
  The program's frames: all that is taken out; what the program tells of frames.
-/
import Derived.Test.YtlcmjedbdopglaaGreatDoorFrpL
import Derived.Test.YtlcmjedbdopglaaGreatDoorFrmO
import Derived.LoopTactic
namespace Go.Proofs.YtlcmjedbdopglaaGreatDoor
open Go.RowKit
set_option linter.unusedVariables false






theorem frame_calls : FrameCalls ProgR (fun _ => True) where
  next := fun w v F size L lost h _ _ => prog_Next w v F size L lost h
  nnext := fun w _ => prog_noNext w
  bytes := fun w k fv ns hR hB hl hk _ => (prog_Bytes k fv ns w hR hB hl hk).mono (by
    rintro e w' ⟨v, rfl, hO, g⟩
    exact ⟨v, rfl, hO.row, fun _ b hb => (World.ownsRow.lt hO b hb).1, g⟩)
end Go.Proofs.YtlcmjedbdopglaaGreatDoor

/-
  DERIVED. GIVEN WITH THE SEED: THE CARDS: each row of YtcdmbnbanopioaaGreatDoorRows.lean that lists a variable, with what it lists TIED to the program's text (the seventh form; the later family's looks); each row that meets fmt, with fmt's text TOLD by the authors' own Lean function (tested against real Go, not proved from fmt's source: count such statements apart). THE CARD IS WHAT COUNTS. Prove the row's statement (the work); the ties are given (YtcdmbnbanopioaaGreatDoorTie.lean); close each card by the builder's one call (the guide's Derived/Test/ToyasCard.lean, 'card_holds'). Laid BY PROGRAM, IN A SANDBOX (cutbox-door.mjs). By AI agents, Wed Nov 11 2026. No macro, syntax, notation, axiom, sorry.
-/
import Derived.Test.YtcdmbnbanopioaaGreatDoorRows
import GoSem.ClaimSeven
namespace Go.Proofs.YtcdmbnbanopioaaGreatDoor
namespace Rows

/-- THE TIED CARD OF 'remontoirelaw14.DialogPlan'. -/
def dialogPlanCard : Claim7 := { stood := { row := dialogPlanRow, standIns := [], harness := (true, "94e57757a7d1a941afcb9aa474058ee9158d68899ffc6012679aabab9689ee85"), looks := false }, kinds := [], alts := [], laidByText := true, laidKinds := [.data, .data, .data, .data], laidTests := true, laidLooks := .later }
def DialogPlanCardSaid : Prop := Claim7.holds Tryz.pinned (.plain (OpenSpec.ofChange dialogPlanSpec)) dialogPlanCard

/-- THE SECOND FORM's CARD OF 'remontoirelaw14.DialogPlan'. -/
def dialogPlanUptoCard : Claim7 := { stood := { row := dialogPlanUptoRow, standIns := [], harness := (true, "94e57757a7d1a941afcb9aa474058ee9158d68899ffc6012679aabab9689ee85"), looks := false }, kinds := [], alts := [], laidByText := true, laidKinds := [.data, .data, .data, .data], laidTests := true, laidLooks := .later }
def DialogPlanUptoCardSaid : Prop := Claim7.holds Tryz.pinned (.plain (OpenSpec.upto dialogPlanSpec)) dialogPlanUptoCard
end Rows
end Go.Proofs.YtcdmbnbanopioaaGreatDoor

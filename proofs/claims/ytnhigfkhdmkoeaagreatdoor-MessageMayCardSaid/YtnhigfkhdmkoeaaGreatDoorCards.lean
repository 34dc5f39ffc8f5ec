/-
  DERIVED. GIVEN WITH THE SEED: THE CARDS: each row of YtnhigfkhdmkoeaaGreatDoorRows.lean that lists a variable, with what it lists TIED to the program's text (the seventh form; the later family's looks); each row that meets fmt, with fmt's text TOLD by the authors' own Lean function (tested against real Go, not proved from fmt's source: count such statements apart). THE CARD IS WHAT COUNTS. Prove the row's statement (the work); the ties are given (YtnhigfkhdmkoeaaGreatDoorTie.lean); close each card by the builder's one call (the guide's Derived/Test/ToyasCard.lean, 'card_holds'). Laid BY PROGRAM, IN A SANDBOX (cutbox-door.mjs). By AI agents, Wed Nov 11 2026. No macro, syntax, notation, axiom, sorry.
-/
import Derived.Test.YtnhigfkhdmkoeaaGreatDoorRows
import GoSem.ClaimSeven
namespace Go.Proofs.YtnhigfkhdmkoeaaGreatDoor
namespace Rows

/-- THE TIED CARD OF 'remontoirelaw15.MessageOf'. -/
def messageOfCard : Claim7 := { stood := { row := messageOfRow, standIns := [], harness := (true, "d9557eeb41d9bd9a3fa77c83ea2ec8934ed3338da6ebf4b5410221ee97882c88"), looks := false }, kinds := [], alts := [], laidByText := true, laidKinds := [.data, .data, .pinned], laidTests := true, laidLooks := .later }
def MessageOfCardSaid : Prop := Claim7.holds Tryz.pinned (.plain (OpenSpec.ofChange messageOfSpec)) messageOfCard

/-- THE TIED CARD OF 'remontoirelaw15.MessageMay'. -/
def messageMayCard : Claim7 := { stood := { row := messageMayRow, standIns := [], harness := (true, "d9557eeb41d9bd9a3fa77c83ea2ec8934ed3338da6ebf4b5410221ee97882c88"), looks := false }, kinds := [], alts := [], laidByText := true, laidKinds := [.data, .data, .pinned], laidTests := true, laidLooks := .later }
def MessageMayCardSaid : Prop := Claim7.holds Tryz.pinned (.plain (OpenSpec.ofChange messageMaySpec)) messageMayCard

/-- THE SECOND FORM's CARD OF 'remontoirelaw15.MessageOf'. -/
def messageOfUptoCard : Claim7 := { stood := { row := messageOfUptoRow, standIns := [], harness := (true, "d9557eeb41d9bd9a3fa77c83ea2ec8934ed3338da6ebf4b5410221ee97882c88"), looks := false }, kinds := [], alts := [], laidByText := true, laidKinds := [.data, .data, .pinned], laidTests := true, laidLooks := .later }
def MessageOfUptoCardSaid : Prop := Claim7.holds Tryz.pinned (.plain (OpenSpec.upto messageOfSpec)) messageOfUptoCard

/-- THE SECOND FORM's CARD OF 'remontoirelaw15.MessageMay'. -/
def messageMayUptoCard : Claim7 := { stood := { row := messageMayUptoRow, standIns := [], harness := (true, "d9557eeb41d9bd9a3fa77c83ea2ec8934ed3338da6ebf4b5410221ee97882c88"), looks := false }, kinds := [], alts := [], laidByText := true, laidKinds := [.data, .data, .pinned], laidTests := true, laidLooks := .later }
def MessageMayUptoCardSaid : Prop := Claim7.holds Tryz.pinned (.plain (OpenSpec.upto messageMaySpec)) messageMayUptoCard
end Rows
end Go.Proofs.YtnhigfkhdmkoeaaGreatDoor

/-
  DERIVED. GIVEN WITH THE SEED: THE CARDS: each row of YtnfijelcnemgbaaDoorRows.lean that lists a variable, with what it lists TIED to the program's text (the seventh form; the later family's looks); each row that meets fmt, with fmt's text TOLD by the authors' own Lean function (tested against real Go, not proved from fmt's source: count such statements apart). THE CARD IS WHAT COUNTS. Prove the row's statement (the work); the ties are given (YtnfijelcnemgbaaDoorTie.lean); close each card by the builder's one call (the guide's Derived/Test/ToyasCard.lean, 'card_holds'). Laid BY PROGRAM, IN A SANDBOX (cutbox-door.mjs). By AI agents, Wed Nov 11 2026. No macro, syntax, notation, axiom, sorry.
-/
import Derived.Test.YtnfijelcnemgbaaDoorRows
import GoSem.ClaimSeven
namespace Go.Proofs.YtnfijelcnemgbaaDoor
namespace Rows

/-- THE TIED CARD OF 'remontoirelaw04.LeapTimes'. -/
def leapTimesCard : Claim7 := { stood := { row := leapTimesRow, standIns := [], harness := (true, "ae08e4996e4125e1f1008d685853d52e94f66af557c6bdd23835143ffeed2a8a"), looks := false }, kinds := [], alts := [], laidByText := true, laidKinds := [.data], laidTests := true, laidLooks := .later }
def LeapTimesCardSaid : Prop := Claim7.holds Tryd.pinned (.plain (OpenSpec.ofChange leapTimesSpec)) leapTimesCard

/-- THE TIED CARD OF 'remontoirelaw04.LeapTable'. -/
def leapTableCard : Claim7 := { stood := { row := leapTableRow, standIns := [], harness := (true, "ae08e4996e4125e1f1008d685853d52e94f66af557c6bdd23835143ffeed2a8a"), looks := false }, kinds := [], alts := [], laidByText := true, laidKinds := [.data], laidTests := true, laidLooks := .later }
def LeapTableCardSaid : Prop := Claim7.holds Tryd.pinned (.plain (OpenSpec.ofChange leapTableSpec)) leapTableCard

/-- THE TIED CARD OF 'remontoirelaw04.LeapBack'. -/
def leapBackCard : Claim7 := { stood := { row := leapBackRow, standIns := [], harness := (true, "ae08e4996e4125e1f1008d685853d52e94f66af557c6bdd23835143ffeed2a8a"), looks := false }, kinds := [], alts := [], laidByText := true, laidKinds := [.data], laidTests := true, laidLooks := .later }
def LeapBackCardSaid : Prop := Claim7.holds Tryd.pinned (.plain (OpenSpec.ofChange leapBackSpec)) leapBackCard

/-- THE SECOND FORM's CARD OF 'remontoirelaw04.LeapTimes'. -/
def leapTimesUptoCard : Claim7 := { stood := { row := leapTimesUptoRow, standIns := [], harness := (true, "ae08e4996e4125e1f1008d685853d52e94f66af557c6bdd23835143ffeed2a8a"), looks := false }, kinds := [], alts := [], laidByText := true, laidKinds := [.data], laidTests := true, laidLooks := .later }
def LeapTimesUptoCardSaid : Prop := Claim7.holds Tryd.pinned (.plain (OpenSpec.upto leapTimesSpec)) leapTimesUptoCard

/-- THE SECOND FORM's CARD OF 'remontoirelaw04.LeapTable'. -/
def leapTableUptoCard : Claim7 := { stood := { row := leapTableUptoRow, standIns := [], harness := (true, "ae08e4996e4125e1f1008d685853d52e94f66af557c6bdd23835143ffeed2a8a"), looks := false }, kinds := [], alts := [], laidByText := true, laidKinds := [.data], laidTests := true, laidLooks := .later }
def LeapTableUptoCardSaid : Prop := Claim7.holds Tryd.pinned (.plain (OpenSpec.upto leapTableSpec)) leapTableUptoCard

/-- THE SECOND FORM's CARD OF 'remontoirelaw04.LeapBack'. -/
def leapBackUptoCard : Claim7 := { stood := { row := leapBackUptoRow, standIns := [], harness := (true, "ae08e4996e4125e1f1008d685853d52e94f66af557c6bdd23835143ffeed2a8a"), looks := false }, kinds := [], alts := [], laidByText := true, laidKinds := [.data], laidTests := true, laidLooks := .later }
def LeapBackUptoCardSaid : Prop := Claim7.holds Tryd.pinned (.plain (OpenSpec.upto leapBackSpec)) leapBackUptoCard
end Rows
end Go.Proofs.YtnfijelcnemgbaaDoor

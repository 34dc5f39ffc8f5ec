/-
  DERIVED. GIVEN WITH THE SEED: THE CARDS: each row of YtlcmjedbdopglaaDoorRows.lean that lists a variable, with what it lists TIED to the program's text (the seventh form; the later family's looks); each row that meets fmt, with fmt's text TOLD by the authors' own Lean function (tested against real Go, not proved from fmt's source: count such statements apart). THE CARD IS WHAT COUNTS. Prove the row's statement (the work); the ties are given (YtlcmjedbdopglaaDoorTie.lean); close each card by the builder's one call (the guide's Derived/Test/ToyasCard.lean, 'card_holds'). Laid BY PROGRAM, IN A SANDBOX (cutbox-door.mjs). By AI agents, Wed Nov 11 2026. No macro, syntax, notation, axiom, sorry.
-/
import Derived.Test.YtlcmjedbdopglaaDoorRows
import GoSem.ClaimSeven
namespace Go.Proofs.YtlcmjedbdopglaaDoor
namespace Rows

/-- THE TIED CARD OF 'remontoirelaw11.NmeaoutWrites'. -/
def nmeaoutWritesCard : Claim7 := { stood := { row := nmeaoutWritesRow, standIns := [], harness := (true, "886b3d0601b87fddad9ed6b55b819a8354745d5812ab28df21bf0eeed6c9b970"), looks := false }, kinds := [], alts := [], laidByText := true, laidKinds := [.data, .data, .data, .data, .data], laidTests := true, laidLooks := .later }
def NmeaoutWritesCardSaid : Prop := Claim7.holds Tryd.pinned (.plain (OpenSpec.ofChange nmeaoutWritesSpec)) nmeaoutWritesCard

/-- THE SECOND FORM's CARD OF 'remontoirelaw11.NmeaoutWrites'. -/
def nmeaoutWritesUptoCard : Claim7 := { stood := { row := nmeaoutWritesUptoRow, standIns := [], harness := (true, "886b3d0601b87fddad9ed6b55b819a8354745d5812ab28df21bf0eeed6c9b970"), looks := false }, kinds := [], alts := [], laidByText := true, laidKinds := [.data, .data, .data, .data, .data], laidTests := true, laidLooks := .later }
def NmeaoutWritesUptoCardSaid : Prop := Claim7.holds Tryd.pinned (.plain (OpenSpec.upto nmeaoutWritesSpec)) nmeaoutWritesUptoCard
end Rows
end Go.Proofs.YtlcmjedbdopglaaDoor

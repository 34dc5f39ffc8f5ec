/-
  DERIVED. GIVEN WITH THE SEED: THE CARDS: each row of YtlcmjedbdopglaaGreatDoorRows.lean that lists a variable, with what it lists TIED to the program's text (the seventh form; the later family's looks); each row that meets fmt, with fmt's text TOLD by the authors' own Lean function (tested against real Go, not proved from fmt's source: count such statements apart). THE CARD IS WHAT COUNTS. Prove the row's statement (the work); the ties are given (YtlcmjedbdopglaaGreatDoorTie.lean); close each card by the builder's one call (the guide's Derived/Test/ToyasCard.lean, 'card_holds'). Laid BY PROGRAM, IN A SANDBOX (cutbox-door.mjs). By AI agents, Wed Nov 11 2026. No macro, syntax, notation, axiom, sorry.
-/
import Derived.Test.YtlcmjedbdopglaaGreatDoorRows
import GoSem.ClaimSeven
namespace Go.Proofs.YtlcmjedbdopglaaGreatDoor
namespace Rows

/-- THE TIED CARD OF 'remontoirelaw11.NmeaoutClock'. -/
def nmeaoutClockCard : Claim7 := { stood := { row := nmeaoutClockRow, standIns := [], harness := (true, "8a350f2308481f7bae5e96c1e215bd6186e59747e81b690d7d3bfec3937627b3"), looks := false }, kinds := [], alts := [], laidByText := true, laidKinds := [.data, .data, .data, .data, .data, .data, .pinned], laidTests := true, laidLooks := .later }
def NmeaoutClockCardSaid : Prop := Claim7.holds Tryz.pinned (.plain (OpenSpec.ofChange nmeaoutClockSpec)) nmeaoutClockCard

/-- THE SECOND FORM's CARD OF 'remontoirelaw11.NmeaoutClock'. -/
def nmeaoutClockUptoCard : Claim7 := { stood := { row := nmeaoutClockUptoRow, standIns := [], harness := (true, "8a350f2308481f7bae5e96c1e215bd6186e59747e81b690d7d3bfec3937627b3"), looks := false }, kinds := [], alts := [], laidByText := true, laidKinds := [.data, .data, .data, .data, .data, .data, .pinned], laidTests := true, laidLooks := .later }
def NmeaoutClockUptoCardSaid : Prop := Claim7.holds Tryz.pinned (.plain (OpenSpec.upto nmeaoutClockSpec)) nmeaoutClockUptoCard
end Rows
end Go.Proofs.YtlcmjedbdopglaaGreatDoor

/-
  DERIVED. GIVEN WITH THE SEED: THE CARDS: each row of YtajgicliepenkaaDoorRows.lean that lists a variable, with what it lists TIED to the program's text (the seventh form; the later family's looks); each row that meets fmt, with fmt's text TOLD by the authors' own Lean function (tested against real Go, not proved from fmt's source: count such statements apart). THE CARD IS WHAT COUNTS. Prove the row's statement (the work); the ties are given (YtajgicliepenkaaDoorTie.lean); close each card by the builder's one call (the guide's Derived/Test/ToyasCard.lean, 'card_holds'). Laid BY PROGRAM, IN A SANDBOX (cutbox-door.mjs). By AI agents, Wed Nov 11 2026. No macro, syntax, notation, axiom, sorry.
-/
import Derived.Test.YtajgicliepenkaaDoorRows
import GoSem.ClaimSeven
namespace Go.Proofs.YtajgicliepenkaaDoor
namespace Rows

/-- THE TIED CARD OF 'remontoirelaw10.NmeaTalkers'. -/
def nmeaTalkersCard : Claim7 := { stood := { row := nmeaTalkersRow, standIns := [], harness := (true, "e509f33617b10a2f74725e5e4fb9cf983f77950990eea06209866c2f0826e772"), looks := false }, kinds := [], alts := [], laidByText := true, laidKinds := [.data, .pinned], laidTests := true, laidLooks := .later }
def NmeaTalkersCardSaid : Prop := Claim7.holds Tryd.pinned (.plain (OpenSpec.ofChange nmeaTalkersSpec)) nmeaTalkersCard

/-- THE SECOND FORM's CARD OF 'remontoirelaw10.NmeaTalkers'. -/
def nmeaTalkersUptoCard : Claim7 := { stood := { row := nmeaTalkersUptoRow, standIns := [], harness := (true, "e509f33617b10a2f74725e5e4fb9cf983f77950990eea06209866c2f0826e772"), looks := false }, kinds := [], alts := [], laidByText := true, laidKinds := [.data, .pinned], laidTests := true, laidLooks := .later }
def NmeaTalkersUptoCardSaid : Prop := Claim7.holds Tryd.pinned (.plain (OpenSpec.upto nmeaTalkersSpec)) nmeaTalkersUptoCard
end Rows
end Go.Proofs.YtajgicliepenkaaDoor

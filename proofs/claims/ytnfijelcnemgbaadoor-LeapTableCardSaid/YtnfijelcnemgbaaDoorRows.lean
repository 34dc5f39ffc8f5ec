/-
  NARROWER THAN 'FOR EVERY INPUT', by the rows' own cells (each row's printed sentence says how): LeapTimes: laid · LeapTable: laid · LeapBack: laid.
  DERIVED. THE GIVEN ROWS OF THIS SEAT. 3 by the template 'for every input the law returns true; each argument reads behind the call as it read before'; 0 by the template 'total and deterministic' (their statements: YtnfijelcnemgbaaDoorTotals.lean).
  GIVEN WITH THE SEED: the statements are not yours to turn. If you find one false, say at which input.
  Laid BY PROGRAM, IN A SANDBOX (cutbox-rows.mjs): the forced cells as the released guide's own fill.sh prints them over the translation dca86ce596512bc7… (all of the seat's roots in one cut). By AI agents, Wed Nov 11 2026. No macro, syntax, notation, axiom, sorry.
-/
import Derived.Test.YtnfijelcnemgbaaDoorChecked
import GoSem.Claim
import GoSem.ClaimJoined
import GoSem.ClaimMapViews
import Derived.JoinedTies
import Derived.KernelRfl
namespace Go.Proofs.YtnfijelcnemgbaaDoor
/- THE CELL 'sum', in the pinned program and in every row, IS THE sha256 OF THE DUMP (.gsa) THAT YtnfijelcnemgbaaDoorProg.lean LOADS. Nothing in Lean hashes anything: it is a label: what it is worth is what the hold of that sum in a sandbox is worth. -/
noncomputable def Tryd.pinned : Pinned := { name := "ytnfijelcnemgbaadoor", sum := "dca86ce596512bc7a6ebc8ccefa9ae04b6bce1e9dbe41d5980a918d7a6cbb044", checked := Tryd.checked }
namespace Rows
def none {H : Type} : Left H := { results := [], args := [] }

/- WHAT THE LISTED PACKAGE-LEVEL VARIABLES READ AS WHEN THE CALL BEGINS. Each datum BY PROGRAM (the guide's laid-datum.mjs) off the statement by which the dump's own 'gosem.cut.vars' lays the variable. In a bare row this is a premise. The card (YtnfijelcnemgbaaDoorCards.lean) ties it to the program's text. -/
def laid_remontoire_civil_lengths {H : Type} : DataW H := .agg [.lit (.int .i64 31), .lit (.int .i64 28), .lit (.int .i64 31), .lit (.int .i64 30), .lit (.int .i64 31), .lit (.int .i64 30), .lit (.int .i64 31), .lit (.int .i64 31), .lit (.int .i64 30), .lit (.int .i64 31), .lit (.int .i64 30), .lit (.int .i64 31)]

/-- 'remontoirelaw04.LeapTimes': WHATEVER THE INPUT: true; the input reads as it did. -/
def leapTimesSpec : ChangeSpec := { name := "leapTimes", fn := fun _ => fun
  | [d1, d2, d3] => { results := [.lit (.bool true)], args := [d1, d2, d3] }
  | _ => none }
def leapTimesRow : OpenClaim := { program := "ytnfijelcnemgbaadoor", sum := "dca86ce596512bc7a6ebc8ccefa9ae04b6bce1e9dbe41d5980a918d7a6cbb044", func := "remontoire/remontoirelaw04.LeapTimes", spec := "leapTimes", unfollowed := true, recurses := true, named := ["remontoire/civil.lengths"], apart := false, laid := [("remontoire/civil.lengths", laid_remontoire_civil_lengths)] }
def LeapTimesSaid : Prop := leapTimesRow.holds Tryd.pinned (OpenSpec.ofChange leapTimesSpec)

/-- ITS FALSE NEIGHBOUR: 'it returns false'. Refute it at one input. -/
def leapTimesWrong : ChangeSpec := { name := "leapTimes", fn := fun _ => fun
  | [d1, d2, d3] => { results := [.lit (.bool false)], args := [d1, d2, d3] }
  | _ => none }
def LeapTimesWrongFalsely : Prop := leapTimesRow.holds Tryd.pinned (OpenSpec.ofChange leapTimesWrong)

/-- 'remontoirelaw04.LeapTable': WHATEVER THE INPUT: true; the input reads as it did. -/
def leapTableSpec : ChangeSpec := { name := "leapTable", fn := fun _ => fun
  | [] => { results := [.lit (.bool true)], args := [] }
  | _ => none }
def leapTableRow : OpenClaim := { program := "ytnfijelcnemgbaadoor", sum := "dca86ce596512bc7a6ebc8ccefa9ae04b6bce1e9dbe41d5980a918d7a6cbb044", func := "remontoire/remontoirelaw04.LeapTable", spec := "leapTable", unfollowed := true, recurses := true, named := ["remontoire/civil.lengths"], apart := false, laid := [("remontoire/civil.lengths", laid_remontoire_civil_lengths)] }
def LeapTableSaid : Prop := leapTableRow.holds Tryd.pinned (OpenSpec.ofChange leapTableSpec)

/-- ITS FALSE NEIGHBOUR: 'it returns false'. Refute it at one input. -/
def leapTableWrong : ChangeSpec := { name := "leapTable", fn := fun _ => fun
  | [] => { results := [.lit (.bool false)], args := [] }
  | _ => none }
def LeapTableWrongFalsely : Prop := leapTableRow.holds Tryd.pinned (OpenSpec.ofChange leapTableWrong)

/-- 'remontoirelaw04.LeapBack': WHATEVER THE INPUT: true; the input reads as it did. -/
def leapBackSpec : ChangeSpec := { name := "leapBack", fn := fun _ => fun
  | [d] => { results := [.lit (.bool true)], args := [d] }
  | _ => none }
def leapBackRow : OpenClaim := { program := "ytnfijelcnemgbaadoor", sum := "dca86ce596512bc7a6ebc8ccefa9ae04b6bce1e9dbe41d5980a918d7a6cbb044", func := "remontoire/remontoirelaw04.LeapBack", spec := "leapBack", unfollowed := true, recurses := true, named := ["remontoire/civil.lengths"], apart := false, laid := [("remontoire/civil.lengths", laid_remontoire_civil_lengths)] }
def LeapBackSaid : Prop := leapBackRow.holds Tryd.pinned (OpenSpec.ofChange leapBackSpec)

/-- ITS FALSE NEIGHBOUR: 'it returns false'. Refute it at one input. -/
def leapBackWrong : ChangeSpec := { name := "leapBack", fn := fun _ => fun
  | [d] => { results := [.lit (.bool false)], args := [d] }
  | _ => none }
def LeapBackWrongFalsely : Prop := leapBackRow.holds Tryd.pinned (OpenSpec.ofChange leapBackWrong)

/- THE SECOND FORM. 'bulk': how many values and letters a reading holds, each counted each time it is reached (what is shared counts as often as it is met; a slice's spare places count too). A statement '..UptoSaid' is the law's where the arguments, and the package variables that the reading takes, are together of bulk at most 1048576: NARROWER than '..Said'. Prove '..Said' where nothing that the law and all that it calls make is longer than what came in: it says more and counts as full. Else prove '..UptoSaid'. A law counts once. -/
mutual
def uptoBulk {H : Type} : DataW H → Nat
  | .lit (.string bytes) => bytes.length + 1
  | .lit _ => 1
  | .nil => 1
  | .ptr d => uptoBulk d + 1
  | .slice elems spare => uptoBulkAll elems + uptoBulkAll spare + 1
  | .agg parts => uptoBulkAll parts + 1
  | .iface _ d => uptoBulk d + 1
  | .map entries => uptoBulkEntries entries + 1
  | .held _ => 1
def uptoBulkAll {H : Type} : List (DataW H) → Nat
  | [] => 0
  | d :: r => uptoBulk d + uptoBulkAll r
def uptoBulkEntries {H : Type} : List (Lit × DataW H) → Nat
  | [] => 0
  | x :: r => uptoBulkEntry x + uptoBulkEntries r
def uptoBulkEntry {H : Type} : Lit × DataW H → Nat
  | (.string bytes, d) => bytes.length + uptoBulk d + 1
  | (_, d) => uptoBulk d + 1
 end
def uptoSmall : (H : Type) → List (DataW H) → Bool := fun _ ds => decide (uptoBulkAll ds ≤ 1048576)
def OpenSpec.upto (s : _root_.Go.ChangeSpec) : _root_.Go.OpenSpec := { _root_.Go.OpenSpec.ofChange s with cond := some uptoSmall }

/-- 'remontoirelaw04.LeapTimes', WHERE WHAT IT READS IS OF BULK AT MOST 1048576: true; the input reads as it did. -/
def leapTimesUptoRow : OpenClaim := { program := "ytnfijelcnemgbaadoor", sum := "dca86ce596512bc7a6ebc8ccefa9ae04b6bce1e9dbe41d5980a918d7a6cbb044", func := "remontoire/remontoirelaw04.LeapTimes", spec := "leapTimes", unfollowed := true, recurses := true, named := ["remontoire/civil.lengths"], apart := false, laid := [("remontoire/civil.lengths", laid_remontoire_civil_lengths)], narrowed := true }
def LeapTimesUptoSaid : Prop := leapTimesUptoRow.holds Tryd.pinned (OpenSpec.upto leapTimesSpec)

/-- 'remontoirelaw04.LeapTable', WHERE WHAT IT READS IS OF BULK AT MOST 1048576: true; the input reads as it did. -/
def leapTableUptoRow : OpenClaim := { program := "ytnfijelcnemgbaadoor", sum := "dca86ce596512bc7a6ebc8ccefa9ae04b6bce1e9dbe41d5980a918d7a6cbb044", func := "remontoire/remontoirelaw04.LeapTable", spec := "leapTable", unfollowed := true, recurses := true, named := ["remontoire/civil.lengths"], apart := false, laid := [("remontoire/civil.lengths", laid_remontoire_civil_lengths)], narrowed := true }
def LeapTableUptoSaid : Prop := leapTableUptoRow.holds Tryd.pinned (OpenSpec.upto leapTableSpec)

/-- 'remontoirelaw04.LeapBack', WHERE WHAT IT READS IS OF BULK AT MOST 1048576: true; the input reads as it did. -/
def leapBackUptoRow : OpenClaim := { program := "ytnfijelcnemgbaadoor", sum := "dca86ce596512bc7a6ebc8ccefa9ae04b6bce1e9dbe41d5980a918d7a6cbb044", func := "remontoire/remontoirelaw04.LeapBack", spec := "leapBack", unfollowed := true, recurses := true, named := ["remontoire/civil.lengths"], apart := false, laid := [("remontoire/civil.lengths", laid_remontoire_civil_lengths)], narrowed := true }
def LeapBackUptoSaid : Prop := leapBackUptoRow.holds Tryd.pinned (OpenSpec.upto leapBackSpec)

end Rows
end Go.Proofs.YtnfijelcnemgbaaDoor

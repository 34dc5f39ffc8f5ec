/-
  No cell of these rows narrows 'for every input' (looked for: loops, veiled, ifaces, maps, wideKeys, modest, calm, conditions, laid).
  DERIVED. THE GIVEN ROWS OF THIS SEAT. 3 by the template 'for every input the law returns true; each argument reads behind the call as it read before'; 0 by the template 'total and deterministic' (their statements: YtckkjccaomdnpaaTotals.lean).
  GIVEN WITH THE SEED: the statements are not yours to turn. If you find one false, say at which input.
  Laid BY PROGRAM, IN A SANDBOX (cutbox-rows.mjs): the forced cells as the released guide's own fill.sh prints them over the translation 617ec2c484384bc6… (all of the seat's roots in one cut). By AI agents, Wed Nov 11 2026. No macro, syntax, notation, axiom, sorry.
-/
import Derived.Test.YtckkjccaomdnpaaChecked
import GoSem.Claim
import GoSem.ClaimJoined
import GoSem.ClaimMapViews
import Derived.JoinedTies
import Derived.KernelRfl
namespace Go.Proofs.Ytckkjccaomdnpaa
/- THE CELL 'sum', in the pinned program and in every row, IS THE sha256 OF THE DUMP (.gsa) THAT YtckkjccaomdnpaaProg.lean LOADS. Nothing in Lean hashes anything: it is a label: what it is worth is what the hold of that sum in a sandbox is worth. -/
noncomputable def Try.pinned : Pinned := { name := "ytckkjccaomdnpaa", sum := "617ec2c484384bc62d1cd95877ecc7983086a79722ad80c0c239f1080f2eb328", checked := Try.checked }
namespace Rows
def none {H : Type} : Left H := { results := [], args := [] }

/-- 'remontoirelaw05.WeekSplits': WHATEVER THE INPUT: true; the input reads as it did. -/
def weekSplitsSpec : ChangeSpec := { name := "weekSplits", fn := fun _ => fun
  | [d1, d2, d3] => { results := [.lit (.bool true)], args := [d1, d2, d3] }
  | _ => none }
def weekSplitsRow : OpenClaim := { program := "ytckkjccaomdnpaa", sum := "617ec2c484384bc62d1cd95877ecc7983086a79722ad80c0c239f1080f2eb328", func := "remontoire/remontoirelaw05.WeekSplits", spec := "weekSplits", unfollowed := true, recurses := true, apart := false }
def WeekSplitsSaid : Prop := weekSplitsRow.holds Try.pinned (OpenSpec.ofChange weekSplitsSpec)

/-- ITS FALSE NEIGHBOUR: 'it returns false'. Refute it at one input. -/
def weekSplitsWrong : ChangeSpec := { name := "weekSplits", fn := fun _ => fun
  | [d1, d2, d3] => { results := [.lit (.bool false)], args := [d1, d2, d3] }
  | _ => none }
def WeekSplitsWrongFalsely : Prop := weekSplitsRow.holds Try.pinned (OpenSpec.ofChange weekSplitsWrong)

/-- 'remontoirelaw05.WeekNear': WHATEVER THE INPUT: true; the input reads as it did. -/
def weekNearSpec : ChangeSpec := { name := "weekNear", fn := fun _ => fun
  | [d1, d2, d3] => { results := [.lit (.bool true)], args := [d1, d2, d3] }
  | _ => none }
def weekNearRow : OpenClaim := { program := "ytckkjccaomdnpaa", sum := "617ec2c484384bc62d1cd95877ecc7983086a79722ad80c0c239f1080f2eb328", func := "remontoire/remontoirelaw05.WeekNear", spec := "weekNear", unfollowed := true, recurses := true, apart := false }
def WeekNearSaid : Prop := weekNearRow.holds Try.pinned (OpenSpec.ofChange weekNearSpec)

/-- ITS FALSE NEIGHBOUR: 'it returns false'. Refute it at one input. -/
def weekNearWrong : ChangeSpec := { name := "weekNear", fn := fun _ => fun
  | [d1, d2, d3] => { results := [.lit (.bool false)], args := [d1, d2, d3] }
  | _ => none }
def WeekNearWrongFalsely : Prop := weekNearRow.holds Try.pinned (OpenSpec.ofChange weekNearWrong)

/-- 'remontoirelaw05.WeekBack': WHATEVER THE INPUT: true; the input reads as it did. -/
def weekBackSpec : ChangeSpec := { name := "weekBack", fn := fun _ => fun
  | [d1, d2, d3] => { results := [.lit (.bool true)], args := [d1, d2, d3] }
  | _ => none }
def weekBackRow : OpenClaim := { program := "ytckkjccaomdnpaa", sum := "617ec2c484384bc62d1cd95877ecc7983086a79722ad80c0c239f1080f2eb328", func := "remontoire/remontoirelaw05.WeekBack", spec := "weekBack", unfollowed := true, recurses := true, apart := false }
def WeekBackSaid : Prop := weekBackRow.holds Try.pinned (OpenSpec.ofChange weekBackSpec)

/-- ITS FALSE NEIGHBOUR: 'it returns false'. Refute it at one input. -/
def weekBackWrong : ChangeSpec := { name := "weekBack", fn := fun _ => fun
  | [d1, d2, d3] => { results := [.lit (.bool false)], args := [d1, d2, d3] }
  | _ => none }
def WeekBackWrongFalsely : Prop := weekBackRow.holds Try.pinned (OpenSpec.ofChange weekBackWrong)

/- THE SECOND FORM. 'bulk': how many values and letters a reading holds, each counted each time it is reached (what is shared counts as often as it is met; a slice's spare places count too). A statement '..UptoSaid' is the law's where the arguments, and the package variables that the reading takes, are together of bulk at most 1048576: NARROWER than '..Said'. Prove '..Said' where nothing that the law and all that it calls make is longer than what came in: it says more and counts as full. Else prove '..UptoSaid'. A law counts once. -/
mutual
def uptoBulk {H : Type} : DataW H → Nat
  | .lit (.string bytes) => bytes.length + 1
  | .lit _ => 1
  | .nil => 1
  | .ptr d => uptoBulk d + 1
  | .slice elems spare => uptoBulkAll elems + uptoBulkAll spare + 1
  | .agg parts => uptoBulkAll parts + 1
  | .iface _ d => uptoBulk d + 1
  | .map entries => uptoBulkEntries entries + 1
  | .held _ => 1
def uptoBulkAll {H : Type} : List (DataW H) → Nat
  | [] => 0
  | d :: r => uptoBulk d + uptoBulkAll r
def uptoBulkEntries {H : Type} : List (Lit × DataW H) → Nat
  | [] => 0
  | x :: r => uptoBulkEntry x + uptoBulkEntries r
def uptoBulkEntry {H : Type} : Lit × DataW H → Nat
  | (.string bytes, d) => bytes.length + uptoBulk d + 1
  | (_, d) => uptoBulk d + 1
 end
def uptoSmall : (H : Type) → List (DataW H) → Bool := fun _ ds => decide (uptoBulkAll ds ≤ 1048576)
def OpenSpec.upto (s : _root_.Go.ChangeSpec) : _root_.Go.OpenSpec := { _root_.Go.OpenSpec.ofChange s with cond := some uptoSmall }

/-- 'remontoirelaw05.WeekSplits', WHERE WHAT IT READS IS OF BULK AT MOST 1048576: true; the input reads as it did. -/
def weekSplitsUptoRow : OpenClaim := { program := "ytckkjccaomdnpaa", sum := "617ec2c484384bc62d1cd95877ecc7983086a79722ad80c0c239f1080f2eb328", func := "remontoire/remontoirelaw05.WeekSplits", spec := "weekSplits", unfollowed := true, recurses := true, apart := false, narrowed := true }
def WeekSplitsUptoSaid : Prop := weekSplitsUptoRow.holds Try.pinned (OpenSpec.upto weekSplitsSpec)

/-- 'remontoirelaw05.WeekNear', WHERE WHAT IT READS IS OF BULK AT MOST 1048576: true; the input reads as it did. -/
def weekNearUptoRow : OpenClaim := { program := "ytckkjccaomdnpaa", sum := "617ec2c484384bc62d1cd95877ecc7983086a79722ad80c0c239f1080f2eb328", func := "remontoire/remontoirelaw05.WeekNear", spec := "weekNear", unfollowed := true, recurses := true, apart := false, narrowed := true }
def WeekNearUptoSaid : Prop := weekNearUptoRow.holds Try.pinned (OpenSpec.upto weekNearSpec)

/-- 'remontoirelaw05.WeekBack', WHERE WHAT IT READS IS OF BULK AT MOST 1048576: true; the input reads as it did. -/
def weekBackUptoRow : OpenClaim := { program := "ytckkjccaomdnpaa", sum := "617ec2c484384bc62d1cd95877ecc7983086a79722ad80c0c239f1080f2eb328", func := "remontoire/remontoirelaw05.WeekBack", spec := "weekBack", unfollowed := true, recurses := true, apart := false, narrowed := true }
def WeekBackUptoSaid : Prop := weekBackUptoRow.holds Try.pinned (OpenSpec.upto weekBackSpec)

end Rows
end Go.Proofs.Ytckkjccaomdnpaa

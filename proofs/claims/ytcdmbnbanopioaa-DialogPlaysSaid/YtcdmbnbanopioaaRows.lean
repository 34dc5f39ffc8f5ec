/-
  No cell of these rows narrows 'for every input' (looked for: loops, veiled, ifaces, maps, wideKeys, modest, calm, conditions, laid).
  DERIVED. THE GIVEN ROWS OF THIS SEAT. 2 by the template 'for every input the law returns true; each argument reads behind the call as it read before'; 0 by the template 'total and deterministic' (their statements: YtcdmbnbanopioaaTotals.lean).
  GIVEN WITH THE SEED: the statements are not yours to turn. If you find one false, say at which input.
  Laid BY PROGRAM, IN A SANDBOX (cutbox-rows.mjs): the forced cells as the released guide's own fill.sh prints them over the translation a55b9045f8e9ca80… (all of the seat's roots in one cut). By AI agents, Wed Nov 11 2026. No macro, syntax, notation, axiom, sorry.
-/
import Derived.Test.YtcdmbnbanopioaaChecked
import GoSem.Claim
import GoSem.ClaimJoined
import GoSem.ClaimMapViews
import Derived.JoinedTies
import Derived.KernelRfl
namespace Go.Proofs.Ytcdmbnbanopioaa
/- THE CELL 'sum', in the pinned program and in every row, IS THE sha256 OF THE DUMP (.gsa) THAT YtcdmbnbanopioaaProg.lean LOADS. Nothing in Lean hashes anything: it is a label: what it is worth is what the hold of that sum in a sandbox is worth. -/
noncomputable def Try.pinned : Pinned := { name := "ytcdmbnbanopioaa", sum := "a55b9045f8e9ca803586529c8d66c2dce7777cbb6e9029a2d16c6b485c4c99fa", checked := Try.checked }
namespace Rows
def none {H : Type} : Left H := { results := [], args := [] }

/-- 'remontoirelaw14.DialogPlays': WHATEVER THE INPUT: true; the input reads as it did. -/
def dialogPlaysSpec : ChangeSpec := { name := "dialogPlays", fn := fun _ => fun
  | [d1, d2, d3, d4] => { results := [.lit (.bool true)], args := [d1, d2, d3, d4] }
  | _ => none }
def dialogPlaysRow : OpenClaim := { program := "ytcdmbnbanopioaa", sum := "a55b9045f8e9ca803586529c8d66c2dce7777cbb6e9029a2d16c6b485c4c99fa", func := "remontoire/remontoirelaw14.DialogPlays", spec := "dialogPlays", unfollowed := true, recurses := true, plainKeys := false, apart := false }
def DialogPlaysSaid : Prop := dialogPlaysRow.holds Try.pinned (OpenSpec.ofChange dialogPlaysSpec)

/-- ITS FALSE NEIGHBOUR: 'it returns false'. Refute it at one input. -/
def dialogPlaysWrong : ChangeSpec := { name := "dialogPlays", fn := fun _ => fun
  | [d1, d2, d3, d4] => { results := [.lit (.bool false)], args := [d1, d2, d3, d4] }
  | _ => none }
def DialogPlaysWrongFalsely : Prop := dialogPlaysRow.holds Try.pinned (OpenSpec.ofChange dialogPlaysWrong)

/-- 'remontoirelaw14.DialogEnds': WHATEVER THE INPUT: true; the input reads as it did. -/
def dialogEndsSpec : ChangeSpec := { name := "dialogEnds", fn := fun _ => fun
  | [d1, d2, d3] => { results := [.lit (.bool true)], args := [d1, d2, d3] }
  | _ => none }
def dialogEndsRow : OpenClaim := { program := "ytcdmbnbanopioaa", sum := "a55b9045f8e9ca803586529c8d66c2dce7777cbb6e9029a2d16c6b485c4c99fa", func := "remontoire/remontoirelaw14.DialogEnds", spec := "dialogEnds", unfollowed := true, recurses := true, plainKeys := false, apart := false }
def DialogEndsSaid : Prop := dialogEndsRow.holds Try.pinned (OpenSpec.ofChange dialogEndsSpec)

/-- ITS FALSE NEIGHBOUR: 'it returns false'. Refute it at one input. -/
def dialogEndsWrong : ChangeSpec := { name := "dialogEnds", fn := fun _ => fun
  | [d1, d2, d3] => { results := [.lit (.bool false)], args := [d1, d2, d3] }
  | _ => none }
def DialogEndsWrongFalsely : Prop := dialogEndsRow.holds Try.pinned (OpenSpec.ofChange dialogEndsWrong)

/- THE SECOND FORM. 'bulk': how many values and letters a reading holds, each counted each time it is reached (what is shared counts as often as it is met; a slice's spare places count too). A statement '..UptoSaid' is the law's where the arguments, and the package variables that the reading takes, are together of bulk at most 1048576: NARROWER than '..Said'. Prove '..Said' where nothing that the law and all that it calls make is longer than what came in: it says more and counts as full. Else prove '..UptoSaid'. A law counts once. -/
mutual
def uptoBulk {H : Type} : DataW H → Nat
  | .lit (.string bytes) => bytes.length + 1
  | .lit _ => 1
  | .nil => 1
  | .ptr d => uptoBulk d + 1
  | .slice elems spare => uptoBulkAll elems + uptoBulkAll spare + 1
  | .agg parts => uptoBulkAll parts + 1
  | .iface _ d => uptoBulk d + 1
  | .map entries => uptoBulkEntries entries + 1
  | .held _ => 1
def uptoBulkAll {H : Type} : List (DataW H) → Nat
  | [] => 0
  | d :: r => uptoBulk d + uptoBulkAll r
def uptoBulkEntries {H : Type} : List (Lit × DataW H) → Nat
  | [] => 0
  | x :: r => uptoBulkEntry x + uptoBulkEntries r
def uptoBulkEntry {H : Type} : Lit × DataW H → Nat
  | (.string bytes, d) => bytes.length + uptoBulk d + 1
  | (_, d) => uptoBulk d + 1
 end
def uptoSmall : (H : Type) → List (DataW H) → Bool := fun _ ds => decide (uptoBulkAll ds ≤ 1048576)
def OpenSpec.upto (s : _root_.Go.ChangeSpec) : _root_.Go.OpenSpec := { _root_.Go.OpenSpec.ofChange s with cond := some uptoSmall }

/-- 'remontoirelaw14.DialogPlays', WHERE WHAT IT READS IS OF BULK AT MOST 1048576: true; the input reads as it did. -/
def dialogPlaysUptoRow : OpenClaim := { program := "ytcdmbnbanopioaa", sum := "a55b9045f8e9ca803586529c8d66c2dce7777cbb6e9029a2d16c6b485c4c99fa", func := "remontoire/remontoirelaw14.DialogPlays", spec := "dialogPlays", unfollowed := true, recurses := true, plainKeys := false, apart := false, narrowed := true }
def DialogPlaysUptoSaid : Prop := dialogPlaysUptoRow.holds Try.pinned (OpenSpec.upto dialogPlaysSpec)

/-- 'remontoirelaw14.DialogEnds', WHERE WHAT IT READS IS OF BULK AT MOST 1048576: true; the input reads as it did. -/
def dialogEndsUptoRow : OpenClaim := { program := "ytcdmbnbanopioaa", sum := "a55b9045f8e9ca803586529c8d66c2dce7777cbb6e9029a2d16c6b485c4c99fa", func := "remontoire/remontoirelaw14.DialogEnds", spec := "dialogEnds", unfollowed := true, recurses := true, plainKeys := false, apart := false, narrowed := true }
def DialogEndsUptoSaid : Prop := dialogEndsUptoRow.holds Try.pinned (OpenSpec.upto dialogEndsSpec)

end Rows
end Go.Proofs.Ytcdmbnbanopioaa

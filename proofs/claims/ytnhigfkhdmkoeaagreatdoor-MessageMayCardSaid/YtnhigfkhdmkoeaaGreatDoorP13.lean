/-
  The program's table of UBX kinds: the map that ubx.kinds makes, in whatever order its entries come up.
  The program's table of UBX kinds: a kind looked up.
  The program's UBX fields: a value read out of a payload, a value written in one.
  The program's UBX messages: a payload read.
  The program's table of SiRF kinds: a map keyed by a byte: an entry laid, an entry found.
  A region in its own order that fills a map: each operation is run once, whatever has come up ahead of it (XLocM's steps).
-/
import Derived.Test.YtnhigfkhdmkoeaaGreatDoorP12
import Derived.Deep.CutBlock
import Derived.Deep.DeepCutAuto
import Derived.Test.YtnhigfkhdmkoeaaGreatDoorP02
import Derived.Test.YtnhigfkhdmkoeaaGreatDoorP03
import Derived.OwnWalk
import Derived.LoopTactic
import Derived.Deep.LoopGhost
import Derived.StillTailTactics
import Derived.Deep.QuietTactic
import Derived.BigQuiet
import Derived.ChangeMaps5

namespace Go.Proofs.YtnhigfkhdmkoeaaGreatDoor
open Go.RowKit
set_option linter.unusedVariables false

/-- The cells of a kind's fields. -/
def fieldCells : List Int → List Value
  | p :: s :: r => .int .i64 p :: .int .i64 (s.natAbs : Nat) :: .bool (decide (s < 0)) :: fieldCells r
  | _ => []
def opsAt (n : Nat) : Code → Array Oper
  | .region k ops _ => if k = n then ops else #[]
  | .seq a b => opsAt n a ++ opsAt n b
  | _ => #[]
noncomputable def kOps : Array Oper := (Tryz.f52.body.map (opsAt 1)).getD #[]
noncomputable def kRows : List KRow := [⟨16, 1, 7, 92, fieldCells [0, 4, 4, 2, 6, 1, 7, 1, 8, 1, 9, 1, 10, 1, 11, 1, 12, 4, 16, -4, 20, 1, 21, 1]⟩,
  ⟨26, 1, 32, 16, fieldCells [0, 4, 4, -4, 8, 2, 10, -1, 11, 1, 12, 4]⟩,
  ⟨40, 1, 33, 20, fieldCells [0, 4, 4, 4, 8, -4, 12, 2, 14, 1, 15, 1, 16, 1, 17, 1, 18, 1, 19, 1]⟩,
  ⟨54, 1, 38, 24, fieldCells [0, 4, 4, 1, 8, 1, 9, -1, 10, 1, 11, -1, 12, -4, 16, 2, 18, 2, 23, 1]⟩,
  ⟨64, 13, 1, 16, fieldCells [0, 4, 4, 4, 8, -4, 12, 2, 14, 1, 15, 1]⟩,
  ⟨70, 5, 0, 2, fieldCells [0, 1, 1, 1]⟩,
  ⟨76, 5, 1, 2, fieldCells [0, 1, 1, 1]⟩,
  ⟨83, 6, 1, 3, fieldCells [0, 1, 1, 1, 2, 1]⟩,
  ⟨90, 6, 8, 6, fieldCells [0, 2, 2, 2, 4, 2]⟩,
  ⟨99, 6, 49, 32, fieldCells [0, 1, 4, -2, 8, 4, 16, 4, 28, 4]⟩]
theorem kRows_good : KGood kRows := by
  constructor <;> (unfold kRows; simp)
set_option maxHeartbeats 1000000 in
theorem ubp_unsigned (p n : Int) (w : World) : Calls Tryz.prog 74 #[.int .i64 p, .int .i64 n] w fun e w' => e = .returned (.agg #[.int .i64 p, .int .i64 n, .bool false]) ∧ Grew w w' := by
  go_enter Tryz.func74, Tryz.ntmps74
  go_wp2_with fail
  refine bodyPost_ret (by simp [results, Tryz.results74, go_sem]; try rfl) rfl ?_
  exact ⟨rfl, (Grew.refl w).alloc _⟩
set_option maxHeartbeats 1000000 in
theorem ubp_signed (p n : Int) (w : World) : Calls Tryz.prog 75 #[.int .i64 p, .int .i64 n] w fun e w' => e = .returned (.agg #[.int .i64 p, .int .i64 n, .bool true]) ∧ Grew w w' := by
  go_enter Tryz.func75, Tryz.ntmps75
  go_wp2_with fail
  refine bodyPost_ret (by simp [results, Tryz.results75, go_sem]; try rfl) rfl ?_
  exact ⟨rfl, (Grew.refl w).alloc _⟩
/-- The table as it stands. -/
def KindsAt (w : World) (v : Value) : Prop :=
  ∃ m es clk, v = .map (some m) ∧ w.heap[m]? = some (.map es clk) ∧ (∀ e ∈ es.toList, ∃ k ∈ kRows, KEntry 98 w k e) ∧ (∀ k ∈ kRows, ∃ e ∈ es.toList, KEntry 98 w k e)
noncomputable def kShapes : List KShape := [.inr (.inr (.inr ())),
  .inl (keyV 1 7),
  .inl (.agg #[.int .i64 0, .int .i64 4, .bool false]),
  .inl (.agg #[.int .i64 4, .int .i64 2, .bool false]),
  .inl (.agg #[.int .i64 6, .int .i64 1, .bool false]),
  .inl (.agg #[.int .i64 7, .int .i64 1, .bool false]),
  .inl (.agg #[.int .i64 8, .int .i64 1, .bool false]),
  .inl (.agg #[.int .i64 9, .int .i64 1, .bool false]),
  .inl (.agg #[.int .i64 10, .int .i64 1, .bool false]),
  .inl (.agg #[.int .i64 11, .int .i64 1, .bool false]),
  .inl (.agg #[.int .i64 12, .int .i64 4, .bool false]),
  .inl (.agg #[.int .i64 16, .int .i64 4, .bool true]),
  .inl (.agg #[.int .i64 20, .int .i64 1, .bool false]),
  .inl (.agg #[.int .i64 21, .int .i64 1, .bool false]),
  .inr (.inl (fieldCells [0, 4, 4, 2, 6, 1, 7, 1, 8, 1, 9, 1, 10, 1, 11, 1, 12, 4, 16, -4, 20, 1, 21, 1])),
  .inr (.inr (.inl (92, fieldCells [0, 4, 4, 2, 6, 1, 7, 1, 8, 1, 9, 1, 10, 1, 11, 1, 12, 4, 16, -4, 20, 1, 21, 1]))),
  .inl undef,
  .inl (keyV 1 32),
  .inl (.agg #[.int .i64 0, .int .i64 4, .bool false]),
  .inl (.agg #[.int .i64 4, .int .i64 4, .bool true]),
  .inl (.agg #[.int .i64 8, .int .i64 2, .bool false]),
  .inl (.agg #[.int .i64 10, .int .i64 1, .bool true]),
  .inl (.agg #[.int .i64 11, .int .i64 1, .bool false]),
  .inl (.agg #[.int .i64 12, .int .i64 4, .bool false]),
  .inr (.inl (fieldCells [0, 4, 4, -4, 8, 2, 10, -1, 11, 1, 12, 4])),
  .inr (.inr (.inl (16, fieldCells [0, 4, 4, -4, 8, 2, 10, -1, 11, 1, 12, 4]))),
  .inl undef,
  .inl (keyV 1 33),
  .inl (.agg #[.int .i64 0, .int .i64 4, .bool false]),
  .inl (.agg #[.int .i64 4, .int .i64 4, .bool false]),
  .inl (.agg #[.int .i64 8, .int .i64 4, .bool true]),
  .inl (.agg #[.int .i64 12, .int .i64 2, .bool false]),
  .inl (.agg #[.int .i64 14, .int .i64 1, .bool false]),
  .inl (.agg #[.int .i64 15, .int .i64 1, .bool false]),
  .inl (.agg #[.int .i64 16, .int .i64 1, .bool false]),
  .inl (.agg #[.int .i64 17, .int .i64 1, .bool false]),
  .inl (.agg #[.int .i64 18, .int .i64 1, .bool false]),
  .inl (.agg #[.int .i64 19, .int .i64 1, .bool false]),
  .inr (.inl (fieldCells [0, 4, 4, 4, 8, -4, 12, 2, 14, 1, 15, 1, 16, 1, 17, 1, 18, 1, 19, 1])),
  .inr (.inr (.inl (20, fieldCells [0, 4, 4, 4, 8, -4, 12, 2, 14, 1, 15, 1, 16, 1, 17, 1, 18, 1, 19, 1]))),
  .inl undef,
  .inl (keyV 1 38),
  .inl (.agg #[.int .i64 0, .int .i64 4, .bool false]),
  .inl (.agg #[.int .i64 4, .int .i64 1, .bool false]),
  .inl (.agg #[.int .i64 8, .int .i64 1, .bool false]),
  .inl (.agg #[.int .i64 9, .int .i64 1, .bool true]),
  .inl (.agg #[.int .i64 10, .int .i64 1, .bool false]),
  .inl (.agg #[.int .i64 11, .int .i64 1, .bool true]),
  .inl (.agg #[.int .i64 12, .int .i64 4, .bool true]),
  .inl (.agg #[.int .i64 16, .int .i64 2, .bool false]),
  .inl (.agg #[.int .i64 18, .int .i64 2, .bool false]),
  .inl (.agg #[.int .i64 23, .int .i64 1, .bool false]),
  .inr (.inl (fieldCells [0, 4, 4, 1, 8, 1, 9, -1, 10, 1, 11, -1, 12, -4, 16, 2, 18, 2, 23, 1])),
  .inr (.inr (.inl (24, fieldCells [0, 4, 4, 1, 8, 1, 9, -1, 10, 1, 11, -1, 12, -4, 16, 2, 18, 2, 23, 1]))),
  .inl undef,
  .inl (keyV 13 1),
  .inl (.agg #[.int .i64 0, .int .i64 4, .bool false]),
  .inl (.agg #[.int .i64 4, .int .i64 4, .bool false]),
  .inl (.agg #[.int .i64 8, .int .i64 4, .bool true]),
  .inl (.agg #[.int .i64 12, .int .i64 2, .bool false]),
  .inl (.agg #[.int .i64 14, .int .i64 1, .bool false]),
  .inl (.agg #[.int .i64 15, .int .i64 1, .bool false]),
  .inr (.inl (fieldCells [0, 4, 4, 4, 8, -4, 12, 2, 14, 1, 15, 1])),
  .inr (.inr (.inl (16, fieldCells [0, 4, 4, 4, 8, -4, 12, 2, 14, 1, 15, 1]))),
  .inl undef,
  .inl (keyV 5 0),
  .inl (.agg #[.int .i64 0, .int .i64 1, .bool false]),
  .inl (.agg #[.int .i64 1, .int .i64 1, .bool false]),
  .inr (.inl (fieldCells [0, 1, 1, 1])),
  .inr (.inr (.inl (2, fieldCells [0, 1, 1, 1]))),
  .inl undef,
  .inl (keyV 5 1),
  .inl (.agg #[.int .i64 0, .int .i64 1, .bool false]),
  .inl (.agg #[.int .i64 1, .int .i64 1, .bool false]),
  .inr (.inl (fieldCells [0, 1, 1, 1])),
  .inr (.inr (.inl (2, fieldCells [0, 1, 1, 1]))),
  .inl undef,
  .inl (keyV 6 1),
  .inl (.agg #[.int .i64 0, .int .i64 1, .bool false]),
  .inl (.agg #[.int .i64 1, .int .i64 1, .bool false]),
  .inl (.agg #[.int .i64 2, .int .i64 1, .bool false]),
  .inr (.inl (fieldCells [0, 1, 1, 1, 2, 1])),
  .inr (.inr (.inl (3, fieldCells [0, 1, 1, 1, 2, 1]))),
  .inl undef,
  .inl (keyV 6 8),
  .inl (.agg #[.int .i64 0, .int .i64 2, .bool false]),
  .inl (.agg #[.int .i64 2, .int .i64 2, .bool false]),
  .inl (.agg #[.int .i64 4, .int .i64 2, .bool false]),
  .inr (.inl (fieldCells [0, 2, 2, 2, 4, 2])),
  .inr (.inr (.inl (6, fieldCells [0, 2, 2, 2, 4, 2]))),
  .inl undef,
  .inl (keyV 6 49),
  .inl (.agg #[.int .i64 0, .int .i64 1, .bool false]),
  .inl (.agg #[.int .i64 4, .int .i64 2, .bool true]),
  .inl (.agg #[.int .i64 8, .int .i64 4, .bool false]),
  .inl (.agg #[.int .i64 16, .int .i64 4, .bool false]),
  .inl (.agg #[.int .i64 28, .int .i64 4, .bool false]),
  .inr (.inl (fieldCells [0, 1, 4, -2, 8, 4, 16, 4, 28, 4])),
  .inr (.inr (.inl (32, fieldCells [0, 1, 4, -2, 8, 4, 16, 4, 28, 4]))),
  .inl undef,
  .inr (.inr (.inr ())),
  .inr (.inr (.inr ()))]
set_option maxRecDepth 1000000 in
set_option maxHeartbeats 8000000 in
theorem ubp_kinds (w : World) : Calls Tryz.prog 52 #[] w fun e w' => ∃ v, e = .returned v ∧ KindsAt w' v ∧ Grew w w' := by
  go_enter Tryz.func52, Tryz.ntmps52
  go_upto_region 1 with fail
  refine wp_region_fill (n := 92) (ops := kOps) ?_ (fun L i w' v => KLeft 98 w kRows L (kShapes.getD i (.inl undef)) w' v) ?_ ?_ ?_ ?_ ?_
  case refine_1 => kernel_rfl
  case refine_2 => kernel_rfl
  case refine_3 => kernel_rfl
  case refine_4 => rfl
  case refine_6 =>
    intro L a w' hL hdef hsz ho hd g
    obtain ⟨m, e1, hWm, es, clk, hb, h1, h2⟩ : KLeft 98 w kRows L (.inr (.inr (.inr ()))) w' (a.tmps[0]?.getD undef) := hd 101 0 (by kernel_rfl)
    go_wp2_with fail
    refine bodyPost_ret (v := .map (some m)) (by simp [results, Tryz.results52, go_sem, e1]; try rfl) hdef ?_
    exact ⟨_, rfl, ⟨m, es, clk, rfl, hb, fun e he => (by obtain ⟨k, hk, _, hx⟩ := h1 e he; exact ⟨k, hk, hx⟩), fun k hk => h2 k hk (hL _ (by have := List.all_eq_true.1 (show kRows.all (fun k => decide (k.at_ < kOps.size)) = true by kernel_rfl) k hk; simpa using this))⟩, g⟩
  simp only [AllFrom, List.append]
  refine ⟨?_, ?_, ?_, ?_, ?_, ?_, ?_, ?_, ?_, ?_, ?_, ?_, ?_, ?_, ?_, ?_, ?_, ?_, ?_, ?_, ?_, ?_, ?_, ?_, ?_, ?_, ?_, ?_, ?_, ?_, ?_, ?_, ?_, ?_, ?_, ?_, ?_, ?_, ?_, ?_, ?_, ?_, ?_, ?_, ?_, ?_, ?_, ?_, ?_, ?_, ?_, ?_, ?_, ?_, ?_, ?_, ?_, ?_, ?_, ?_, ?_, ?_, ?_, ?_, ?_, ?_, ?_, ?_, ?_, ?_, ?_, ?_, ?_, ?_, ?_, ?_, ?_, ?_, ?_, ?_, ?_, ?_, ?_, ?_, ?_, ?_, ?_, ?_, ?_, ?_, ?_, ?_, ?_, ?_, ?_, ?_, ?_, ?_, ?_, ?_, ?_, ?_, trivial⟩
  · intro L a w' hL ho hw hc hd g
    refine km_of hd g (by kernel_rfl) ?_
    refine each_made (v := .map (some w'.heap.size)) (w1 := w'.alloc (.map #[] 0)) ?_ ((Grew.refl _).alloc _) ⟨_, rfl, g.size, #[], 0, heap_alloc_new _ _, fun e he => (by simp at he), fun k hk hl => ?_⟩
    · simp [execOp, go_sem, run_makeMap]
    · exfalso
      have hl2 : L k.at_ = true := by rw [also_ne (by have := List.all_eq_true.1 (show kRows.all (fun k => k.at_ != 0) = true by kernel_rfl) k hk; simpa using this)] at hl; exact hl
      have := hc k.at_ 0 hl2 (by have := List.all_eq_true.1 (show kRows.all (fun k => waitsAt kOps k.at_ 0) = true by kernel_rfl) k hk; simpa using this)
      rw [hL] at this
      cases this
  · intro L a w' hL ho hw hc hd g
    refine km_of hd g (by kernel_rfl) (each_value (v := keyV 1 7) ?_ rfl)
    simp [execOp, go_sem, keyV]
  · intro L a w' hL ho hw hc hd g
    exact km_of hd g (by kernel_rfl) (each_call (f := 74) (args := #[.int .i64 0, .int .i64 4]) (by simp [go_sem]) ((ubp_unsigned 0 4 w').mono (fun e w'' q => ⟨_, q.1, rfl, q.2⟩)))
  · intro L a w' hL ho hw hc hd g
    exact km_of hd g (by kernel_rfl) (each_call (f := 74) (args := #[.int .i64 4, .int .i64 2]) (by simp [go_sem]) ((ubp_unsigned 4 2 w').mono (fun e w'' q => ⟨_, q.1, rfl, q.2⟩)))
  · intro L a w' hL ho hw hc hd g
    exact km_of hd g (by kernel_rfl) (each_call (f := 74) (args := #[.int .i64 6, .int .i64 1]) (by simp [go_sem]) ((ubp_unsigned 6 1 w').mono (fun e w'' q => ⟨_, q.1, rfl, q.2⟩)))
  · intro L a w' hL ho hw hc hd g
    exact km_of hd g (by kernel_rfl) (each_call (f := 74) (args := #[.int .i64 7, .int .i64 1]) (by simp [go_sem]) ((ubp_unsigned 7 1 w').mono (fun e w'' q => ⟨_, q.1, rfl, q.2⟩)))
  · intro L a w' hL ho hw hc hd g
    exact km_of hd g (by kernel_rfl) (each_call (f := 74) (args := #[.int .i64 8, .int .i64 1]) (by simp [go_sem]) ((ubp_unsigned 8 1 w').mono (fun e w'' q => ⟨_, q.1, rfl, q.2⟩)))
  · intro L a w' hL ho hw hc hd g
    exact km_of hd g (by kernel_rfl) (each_call (f := 74) (args := #[.int .i64 9, .int .i64 1]) (by simp [go_sem]) ((ubp_unsigned 9 1 w').mono (fun e w'' q => ⟨_, q.1, rfl, q.2⟩)))
  · intro L a w' hL ho hw hc hd g
    exact km_of hd g (by kernel_rfl) (each_call (f := 74) (args := #[.int .i64 10, .int .i64 1]) (by simp [go_sem]) ((ubp_unsigned 10 1 w').mono (fun e w'' q => ⟨_, q.1, rfl, q.2⟩)))
  · intro L a w' hL ho hw hc hd g
    exact km_of hd g (by kernel_rfl) (each_call (f := 74) (args := #[.int .i64 11, .int .i64 1]) (by simp [go_sem]) ((ubp_unsigned 11 1 w').mono (fun e w'' q => ⟨_, q.1, rfl, q.2⟩)))
  · intro L a w' hL ho hw hc hd g
    exact km_of hd g (by kernel_rfl) (each_call (f := 74) (args := #[.int .i64 12, .int .i64 4]) (by simp [go_sem]) ((ubp_unsigned 12 4 w').mono (fun e w'' q => ⟨_, q.1, rfl, q.2⟩)))
  · intro L a w' hL ho hw hc hd g
    exact km_of hd g (by kernel_rfl) (each_call (f := 75) (args := #[.int .i64 16, .int .i64 4]) (by simp [go_sem]) ((ubp_signed 16 4 w').mono (fun e w'' q => ⟨_, q.1, rfl, q.2⟩)))
  · intro L a w' hL ho hw hc hd g
    exact km_of hd g (by kernel_rfl) (each_call (f := 74) (args := #[.int .i64 20, .int .i64 1]) (by simp [go_sem]) ((ubp_unsigned 20 1 w').mono (fun e w'' q => ⟨_, q.1, rfl, q.2⟩)))
  · intro L a w' hL ho hw hc hd g
    exact km_of hd g (by kernel_rfl) (each_call (f := 74) (args := #[.int .i64 21, .int .i64 1]) (by simp [go_sem]) ((ubp_unsigned 21 1 w').mono (fun e w'' q => ⟨_, q.1, rfl, q.2⟩)))
  · intro L a w' hL ho hw hc hd g
    have e3 : a.tmps[3]?.getD undef = .agg #[.int .i64 0, .int .i64 4, .bool false] := hd 2 3 (hw 2 (by kernel_rfl)) (by kernel_rfl)
    have e4 : a.tmps[4]?.getD undef = .agg #[.int .i64 4, .int .i64 2, .bool false] := hd 3 4 (hw 3 (by kernel_rfl)) (by kernel_rfl)
    have e5 : a.tmps[5]?.getD undef = .agg #[.int .i64 6, .int .i64 1, .bool false] := hd 4 5 (hw 4 (by kernel_rfl)) (by kernel_rfl)
    have e6 : a.tmps[6]?.getD undef = .agg #[.int .i64 7, .int .i64 1, .bool false] := hd 5 6 (hw 5 (by kernel_rfl)) (by kernel_rfl)
    have e7 : a.tmps[7]?.getD undef = .agg #[.int .i64 8, .int .i64 1, .bool false] := hd 6 7 (hw 6 (by kernel_rfl)) (by kernel_rfl)
    have e8 : a.tmps[8]?.getD undef = .agg #[.int .i64 9, .int .i64 1, .bool false] := hd 7 8 (hw 7 (by kernel_rfl)) (by kernel_rfl)
    have e9 : a.tmps[9]?.getD undef = .agg #[.int .i64 10, .int .i64 1, .bool false] := hd 8 9 (hw 8 (by kernel_rfl)) (by kernel_rfl)
    have e10 : a.tmps[10]?.getD undef = .agg #[.int .i64 11, .int .i64 1, .bool false] := hd 9 10 (hw 9 (by kernel_rfl)) (by kernel_rfl)
    have e11 : a.tmps[11]?.getD undef = .agg #[.int .i64 12, .int .i64 4, .bool false] := hd 10 11 (hw 10 (by kernel_rfl)) (by kernel_rfl)
    have e12 : a.tmps[12]?.getD undef = .agg #[.int .i64 16, .int .i64 4, .bool true] := hd 11 12 (hw 11 (by kernel_rfl)) (by kernel_rfl)
    have e13 : a.tmps[13]?.getD undef = .agg #[.int .i64 20, .int .i64 1, .bool false] := hd 12 13 (hw 12 (by kernel_rfl)) (by kernel_rfl)
    have e14 : a.tmps[14]?.getD undef = .agg #[.int .i64 21, .int .i64 1, .bool false] := hd 13 14 (hw 13 (by kernel_rfl)) (by kernel_rfl)
    refine km_of hd g (by kernel_rfl) (each_made (v := .slice (some ⟨w'.heap.size, 0, none⟩) 12 12) (w1 := w'.alloc (.cells #[.int .i64 0, .int .i64 4, .bool false, .int .i64 4, .int .i64 2, .bool false, .int .i64 6, .int .i64 1, .bool false, .int .i64 7, .int .i64 1, .bool false, .int .i64 8, .int .i64 1, .bool false, .int .i64 9, .int .i64 1, .bool false, .int .i64 10, .int .i64 1, .bool false, .int .i64 11, .int .i64 1, .bool false, .int .i64 12, .int .i64 4, .bool false, .int .i64 16, .int .i64 4, .bool true, .int .i64 20, .int .i64 1, .bool false, .int .i64 21, .int .i64 1, .bool false] 98)) ?_ ((Grew.refl _).alloc _) ⟨_, _, rfl, by kernel_rfl, heap_alloc_new _ _⟩)
    clear hd hw hc ho
    simp [execOp, go_sem, e3, e4, e5, e6, e7, e8, e9, e10, e11, e12, e13, e14]
  · intro L a w' hL ho hw hc hd g
    obtain ⟨b, n, e1, hn, hb⟩ : KLeft 98 w kRows L (.inr (.inl (fieldCells [0, 4, 4, 2, 6, 1, 7, 1, 8, 1, 9, 1, 10, 1, 11, 1, 12, 4, 16, -4, 20, 1, 21, 1]))) w' (a.tmps[15]?.getD undef) := hd 14 15 (hw 14 (by kernel_rfl)) (by kernel_rfl)
    refine km_of hd g (by kernel_rfl) (each_value (v := .agg #[.int .i64 92, .slice (some ⟨b, 0, none⟩) n n]) ?_ ⟨b, n, rfl, hn, hb⟩)
    clear hd hw hc ho
    simp [execOp, go_sem, e1]
  · intro L a w' hL ho hw hc hd g
    exact km_insert (k := ⟨16, 1, 7, 92, fieldCells [0, 4, 4, 2, 6, 1, 7, 1, 8, 1, 9, 1, 10, 1, 11, 1, 12, 4, 16, -4, 20, 1, 21, 1]⟩) kRows_good (by simp [kRows]) rfl rfl rfl hL hd hc g (by kernel_rfl) rfl (by kernel_rfl) (hd 0 1 (hw 0 (by kernel_rfl)) (by kernel_rfl)) (hd 1 2 (hw 1 (by kernel_rfl)) (by kernel_rfl)) (hd 15 16 (hw 15 (by kernel_rfl)) (by kernel_rfl))
  · intro L a w' hL ho hw hc hd g
    refine km_of hd g (by kernel_rfl) (each_value (v := keyV 1 32) ?_ rfl)
    simp [execOp, go_sem, keyV]
  · intro L a w' hL ho hw hc hd g
    exact km_of hd g (by kernel_rfl) (each_call (f := 74) (args := #[.int .i64 0, .int .i64 4]) (by simp [go_sem]) ((ubp_unsigned 0 4 w').mono (fun e w'' q => ⟨_, q.1, rfl, q.2⟩)))
  · intro L a w' hL ho hw hc hd g
    exact km_of hd g (by kernel_rfl) (each_call (f := 75) (args := #[.int .i64 4, .int .i64 4]) (by simp [go_sem]) ((ubp_signed 4 4 w').mono (fun e w'' q => ⟨_, q.1, rfl, q.2⟩)))
  · intro L a w' hL ho hw hc hd g
    exact km_of hd g (by kernel_rfl) (each_call (f := 74) (args := #[.int .i64 8, .int .i64 2]) (by simp [go_sem]) ((ubp_unsigned 8 2 w').mono (fun e w'' q => ⟨_, q.1, rfl, q.2⟩)))
  · intro L a w' hL ho hw hc hd g
    exact km_of hd g (by kernel_rfl) (each_call (f := 75) (args := #[.int .i64 10, .int .i64 1]) (by simp [go_sem]) ((ubp_signed 10 1 w').mono (fun e w'' q => ⟨_, q.1, rfl, q.2⟩)))
  · intro L a w' hL ho hw hc hd g
    exact km_of hd g (by kernel_rfl) (each_call (f := 74) (args := #[.int .i64 11, .int .i64 1]) (by simp [go_sem]) ((ubp_unsigned 11 1 w').mono (fun e w'' q => ⟨_, q.1, rfl, q.2⟩)))
  · intro L a w' hL ho hw hc hd g
    exact km_of hd g (by kernel_rfl) (each_call (f := 74) (args := #[.int .i64 12, .int .i64 4]) (by simp [go_sem]) ((ubp_unsigned 12 4 w').mono (fun e w'' q => ⟨_, q.1, rfl, q.2⟩)))
  · intro L a w' hL ho hw hc hd g
    have e18 : a.tmps[18]?.getD undef = .agg #[.int .i64 0, .int .i64 4, .bool false] := hd 18 18 (hw 18 (by kernel_rfl)) (by kernel_rfl)
    have e19 : a.tmps[19]?.getD undef = .agg #[.int .i64 4, .int .i64 4, .bool true] := hd 19 19 (hw 19 (by kernel_rfl)) (by kernel_rfl)
    have e20 : a.tmps[20]?.getD undef = .agg #[.int .i64 8, .int .i64 2, .bool false] := hd 20 20 (hw 20 (by kernel_rfl)) (by kernel_rfl)
    have e21 : a.tmps[21]?.getD undef = .agg #[.int .i64 10, .int .i64 1, .bool true] := hd 21 21 (hw 21 (by kernel_rfl)) (by kernel_rfl)
    have e22 : a.tmps[22]?.getD undef = .agg #[.int .i64 11, .int .i64 1, .bool false] := hd 22 22 (hw 22 (by kernel_rfl)) (by kernel_rfl)
    have e23 : a.tmps[23]?.getD undef = .agg #[.int .i64 12, .int .i64 4, .bool false] := hd 23 23 (hw 23 (by kernel_rfl)) (by kernel_rfl)
    refine km_of hd g (by kernel_rfl) (each_made (v := .slice (some ⟨w'.heap.size, 0, none⟩) 6 6) (w1 := w'.alloc (.cells #[.int .i64 0, .int .i64 4, .bool false, .int .i64 4, .int .i64 4, .bool true, .int .i64 8, .int .i64 2, .bool false, .int .i64 10, .int .i64 1, .bool true, .int .i64 11, .int .i64 1, .bool false, .int .i64 12, .int .i64 4, .bool false] 98)) ?_ ((Grew.refl _).alloc _) ⟨_, _, rfl, by kernel_rfl, heap_alloc_new _ _⟩)
    clear hd hw hc ho
    simp [execOp, go_sem, e18, e19, e20, e21, e22, e23]
  · intro L a w' hL ho hw hc hd g
    obtain ⟨b, n, e1, hn, hb⟩ : KLeft 98 w kRows L (.inr (.inl (fieldCells [0, 4, 4, -4, 8, 2, 10, -1, 11, 1, 12, 4]))) w' (a.tmps[24]?.getD undef) := hd 24 24 (hw 24 (by kernel_rfl)) (by kernel_rfl)
    refine km_of hd g (by kernel_rfl) (each_value (v := .agg #[.int .i64 16, .slice (some ⟨b, 0, none⟩) n n]) ?_ ⟨b, n, rfl, hn, hb⟩)
    clear hd hw hc ho
    simp [execOp, go_sem, e1]
  · intro L a w' hL ho hw hc hd g
    exact km_insert (k := ⟨26, 1, 32, 16, fieldCells [0, 4, 4, -4, 8, 2, 10, -1, 11, 1, 12, 4]⟩) kRows_good (by simp [kRows]) rfl rfl rfl hL hd hc g (by kernel_rfl) rfl (by kernel_rfl) (hd 0 1 (hw 0 (by kernel_rfl)) (by kernel_rfl)) (hd 17 17 (hw 17 (by kernel_rfl)) (by kernel_rfl)) (hd 25 25 (hw 25 (by kernel_rfl)) (by kernel_rfl))
  · intro L a w' hL ho hw hc hd g
    refine km_of hd g (by kernel_rfl) (each_value (v := keyV 1 33) ?_ rfl)
    simp [execOp, go_sem, keyV]
  · intro L a w' hL ho hw hc hd g
    exact km_of hd g (by kernel_rfl) (each_call (f := 74) (args := #[.int .i64 0, .int .i64 4]) (by simp [go_sem]) ((ubp_unsigned 0 4 w').mono (fun e w'' q => ⟨_, q.1, rfl, q.2⟩)))
  · intro L a w' hL ho hw hc hd g
    exact km_of hd g (by kernel_rfl) (each_call (f := 74) (args := #[.int .i64 4, .int .i64 4]) (by simp [go_sem]) ((ubp_unsigned 4 4 w').mono (fun e w'' q => ⟨_, q.1, rfl, q.2⟩)))
  · intro L a w' hL ho hw hc hd g
    exact km_of hd g (by kernel_rfl) (each_call (f := 75) (args := #[.int .i64 8, .int .i64 4]) (by simp [go_sem]) ((ubp_signed 8 4 w').mono (fun e w'' q => ⟨_, q.1, rfl, q.2⟩)))
  · intro L a w' hL ho hw hc hd g
    exact km_of hd g (by kernel_rfl) (each_call (f := 74) (args := #[.int .i64 12, .int .i64 2]) (by simp [go_sem]) ((ubp_unsigned 12 2 w').mono (fun e w'' q => ⟨_, q.1, rfl, q.2⟩)))
  · intro L a w' hL ho hw hc hd g
    exact km_of hd g (by kernel_rfl) (each_call (f := 74) (args := #[.int .i64 14, .int .i64 1]) (by simp [go_sem]) ((ubp_unsigned 14 1 w').mono (fun e w'' q => ⟨_, q.1, rfl, q.2⟩)))
  · intro L a w' hL ho hw hc hd g
    exact km_of hd g (by kernel_rfl) (each_call (f := 74) (args := #[.int .i64 15, .int .i64 1]) (by simp [go_sem]) ((ubp_unsigned 15 1 w').mono (fun e w'' q => ⟨_, q.1, rfl, q.2⟩)))
  · intro L a w' hL ho hw hc hd g
    exact km_of hd g (by kernel_rfl) (each_call (f := 74) (args := #[.int .i64 16, .int .i64 1]) (by simp [go_sem]) ((ubp_unsigned 16 1 w').mono (fun e w'' q => ⟨_, q.1, rfl, q.2⟩)))
  · intro L a w' hL ho hw hc hd g
    exact km_of hd g (by kernel_rfl) (each_call (f := 74) (args := #[.int .i64 17, .int .i64 1]) (by simp [go_sem]) ((ubp_unsigned 17 1 w').mono (fun e w'' q => ⟨_, q.1, rfl, q.2⟩)))
  · intro L a w' hL ho hw hc hd g
    exact km_of hd g (by kernel_rfl) (each_call (f := 74) (args := #[.int .i64 18, .int .i64 1]) (by simp [go_sem]) ((ubp_unsigned 18 1 w').mono (fun e w'' q => ⟨_, q.1, rfl, q.2⟩)))
  · intro L a w' hL ho hw hc hd g
    exact km_of hd g (by kernel_rfl) (each_call (f := 74) (args := #[.int .i64 19, .int .i64 1]) (by simp [go_sem]) ((ubp_unsigned 19 1 w').mono (fun e w'' q => ⟨_, q.1, rfl, q.2⟩)))
  · intro L a w' hL ho hw hc hd g
    have e27 : a.tmps[27]?.getD undef = .agg #[.int .i64 0, .int .i64 4, .bool false] := hd 28 27 (hw 28 (by kernel_rfl)) (by kernel_rfl)
    have e28 : a.tmps[28]?.getD undef = .agg #[.int .i64 4, .int .i64 4, .bool false] := hd 29 28 (hw 29 (by kernel_rfl)) (by kernel_rfl)
    have e29 : a.tmps[29]?.getD undef = .agg #[.int .i64 8, .int .i64 4, .bool true] := hd 30 29 (hw 30 (by kernel_rfl)) (by kernel_rfl)
    have e30 : a.tmps[30]?.getD undef = .agg #[.int .i64 12, .int .i64 2, .bool false] := hd 31 30 (hw 31 (by kernel_rfl)) (by kernel_rfl)
    have e31 : a.tmps[31]?.getD undef = .agg #[.int .i64 14, .int .i64 1, .bool false] := hd 32 31 (hw 32 (by kernel_rfl)) (by kernel_rfl)
    have e32 : a.tmps[32]?.getD undef = .agg #[.int .i64 15, .int .i64 1, .bool false] := hd 33 32 (hw 33 (by kernel_rfl)) (by kernel_rfl)
    have e33 : a.tmps[33]?.getD undef = .agg #[.int .i64 16, .int .i64 1, .bool false] := hd 34 33 (hw 34 (by kernel_rfl)) (by kernel_rfl)
    have e34 : a.tmps[34]?.getD undef = .agg #[.int .i64 17, .int .i64 1, .bool false] := hd 35 34 (hw 35 (by kernel_rfl)) (by kernel_rfl)
    have e35 : a.tmps[35]?.getD undef = .agg #[.int .i64 18, .int .i64 1, .bool false] := hd 36 35 (hw 36 (by kernel_rfl)) (by kernel_rfl)
    have e36 : a.tmps[36]?.getD undef = .agg #[.int .i64 19, .int .i64 1, .bool false] := hd 37 36 (hw 37 (by kernel_rfl)) (by kernel_rfl)
    refine km_of hd g (by kernel_rfl) (each_made (v := .slice (some ⟨w'.heap.size, 0, none⟩) 10 10) (w1 := w'.alloc (.cells #[.int .i64 0, .int .i64 4, .bool false, .int .i64 4, .int .i64 4, .bool false, .int .i64 8, .int .i64 4, .bool true, .int .i64 12, .int .i64 2, .bool false, .int .i64 14, .int .i64 1, .bool false, .int .i64 15, .int .i64 1, .bool false, .int .i64 16, .int .i64 1, .bool false, .int .i64 17, .int .i64 1, .bool false, .int .i64 18, .int .i64 1, .bool false, .int .i64 19, .int .i64 1, .bool false] 98)) ?_ ((Grew.refl _).alloc _) ⟨_, _, rfl, by kernel_rfl, heap_alloc_new _ _⟩)
    clear hd hw hc ho
    simp [execOp, go_sem, e27, e28, e29, e30, e31, e32, e33, e34, e35, e36]
  · intro L a w' hL ho hw hc hd g
    obtain ⟨b, n, e1, hn, hb⟩ : KLeft 98 w kRows L (.inr (.inl (fieldCells [0, 4, 4, 4, 8, -4, 12, 2, 14, 1, 15, 1, 16, 1, 17, 1, 18, 1, 19, 1]))) w' (a.tmps[37]?.getD undef) := hd 38 37 (hw 38 (by kernel_rfl)) (by kernel_rfl)
    refine km_of hd g (by kernel_rfl) (each_value (v := .agg #[.int .i64 20, .slice (some ⟨b, 0, none⟩) n n]) ?_ ⟨b, n, rfl, hn, hb⟩)
    clear hd hw hc ho
    simp [execOp, go_sem, e1]
  · intro L a w' hL ho hw hc hd g
    exact km_insert (k := ⟨40, 1, 33, 20, fieldCells [0, 4, 4, 4, 8, -4, 12, 2, 14, 1, 15, 1, 16, 1, 17, 1, 18, 1, 19, 1]⟩) kRows_good (by simp [kRows]) rfl rfl rfl hL hd hc g (by kernel_rfl) rfl (by kernel_rfl) (hd 0 1 (hw 0 (by kernel_rfl)) (by kernel_rfl)) (hd 27 26 (hw 27 (by kernel_rfl)) (by kernel_rfl)) (hd 39 38 (hw 39 (by kernel_rfl)) (by kernel_rfl))
  · intro L a w' hL ho hw hc hd g
    refine km_of hd g (by kernel_rfl) (each_value (v := keyV 1 38) ?_ rfl)
    simp [execOp, go_sem, keyV]
  · intro L a w' hL ho hw hc hd g
    exact km_of hd g (by kernel_rfl) (each_call (f := 74) (args := #[.int .i64 0, .int .i64 4]) (by simp [go_sem]) ((ubp_unsigned 0 4 w').mono (fun e w'' q => ⟨_, q.1, rfl, q.2⟩)))
  · intro L a w' hL ho hw hc hd g
    exact km_of hd g (by kernel_rfl) (each_call (f := 74) (args := #[.int .i64 4, .int .i64 1]) (by simp [go_sem]) ((ubp_unsigned 4 1 w').mono (fun e w'' q => ⟨_, q.1, rfl, q.2⟩)))
  · intro L a w' hL ho hw hc hd g
    exact km_of hd g (by kernel_rfl) (each_call (f := 74) (args := #[.int .i64 8, .int .i64 1]) (by simp [go_sem]) ((ubp_unsigned 8 1 w').mono (fun e w'' q => ⟨_, q.1, rfl, q.2⟩)))
  · intro L a w' hL ho hw hc hd g
    exact km_of hd g (by kernel_rfl) (each_call (f := 75) (args := #[.int .i64 9, .int .i64 1]) (by simp [go_sem]) ((ubp_signed 9 1 w').mono (fun e w'' q => ⟨_, q.1, rfl, q.2⟩)))
  · intro L a w' hL ho hw hc hd g
    exact km_of hd g (by kernel_rfl) (each_call (f := 74) (args := #[.int .i64 10, .int .i64 1]) (by simp [go_sem]) ((ubp_unsigned 10 1 w').mono (fun e w'' q => ⟨_, q.1, rfl, q.2⟩)))
  · intro L a w' hL ho hw hc hd g
    exact km_of hd g (by kernel_rfl) (each_call (f := 75) (args := #[.int .i64 11, .int .i64 1]) (by simp [go_sem]) ((ubp_signed 11 1 w').mono (fun e w'' q => ⟨_, q.1, rfl, q.2⟩)))
  · intro L a w' hL ho hw hc hd g
    exact km_of hd g (by kernel_rfl) (each_call (f := 75) (args := #[.int .i64 12, .int .i64 4]) (by simp [go_sem]) ((ubp_signed 12 4 w').mono (fun e w'' q => ⟨_, q.1, rfl, q.2⟩)))
  · intro L a w' hL ho hw hc hd g
    exact km_of hd g (by kernel_rfl) (each_call (f := 74) (args := #[.int .i64 16, .int .i64 2]) (by simp [go_sem]) ((ubp_unsigned 16 2 w').mono (fun e w'' q => ⟨_, q.1, rfl, q.2⟩)))
  · intro L a w' hL ho hw hc hd g
    exact km_of hd g (by kernel_rfl) (each_call (f := 74) (args := #[.int .i64 18, .int .i64 2]) (by simp [go_sem]) ((ubp_unsigned 18 2 w').mono (fun e w'' q => ⟨_, q.1, rfl, q.2⟩)))
  · intro L a w' hL ho hw hc hd g
    exact km_of hd g (by kernel_rfl) (each_call (f := 74) (args := #[.int .i64 23, .int .i64 1]) (by simp [go_sem]) ((ubp_unsigned 23 1 w').mono (fun e w'' q => ⟨_, q.1, rfl, q.2⟩)))
  · intro L a w' hL ho hw hc hd g
    have e40 : a.tmps[40]?.getD undef = .agg #[.int .i64 0, .int .i64 4, .bool false] := hd 42 40 (hw 42 (by kernel_rfl)) (by kernel_rfl)
    have e41 : a.tmps[41]?.getD undef = .agg #[.int .i64 4, .int .i64 1, .bool false] := hd 43 41 (hw 43 (by kernel_rfl)) (by kernel_rfl)
    have e42 : a.tmps[42]?.getD undef = .agg #[.int .i64 8, .int .i64 1, .bool false] := hd 44 42 (hw 44 (by kernel_rfl)) (by kernel_rfl)
    have e43 : a.tmps[43]?.getD undef = .agg #[.int .i64 9, .int .i64 1, .bool true] := hd 45 43 (hw 45 (by kernel_rfl)) (by kernel_rfl)
    have e44 : a.tmps[44]?.getD undef = .agg #[.int .i64 10, .int .i64 1, .bool false] := hd 46 44 (hw 46 (by kernel_rfl)) (by kernel_rfl)
    have e45 : a.tmps[45]?.getD undef = .agg #[.int .i64 11, .int .i64 1, .bool true] := hd 47 45 (hw 47 (by kernel_rfl)) (by kernel_rfl)
    have e46 : a.tmps[46]?.getD undef = .agg #[.int .i64 12, .int .i64 4, .bool true] := hd 48 46 (hw 48 (by kernel_rfl)) (by kernel_rfl)
    have e47 : a.tmps[47]?.getD undef = .agg #[.int .i64 16, .int .i64 2, .bool false] := hd 49 47 (hw 49 (by kernel_rfl)) (by kernel_rfl)
    have e48 : a.tmps[48]?.getD undef = .agg #[.int .i64 18, .int .i64 2, .bool false] := hd 50 48 (hw 50 (by kernel_rfl)) (by kernel_rfl)
    have e49 : a.tmps[49]?.getD undef = .agg #[.int .i64 23, .int .i64 1, .bool false] := hd 51 49 (hw 51 (by kernel_rfl)) (by kernel_rfl)
    refine km_of hd g (by kernel_rfl) (each_made (v := .slice (some ⟨w'.heap.size, 0, none⟩) 10 10) (w1 := w'.alloc (.cells #[.int .i64 0, .int .i64 4, .bool false, .int .i64 4, .int .i64 1, .bool false, .int .i64 8, .int .i64 1, .bool false, .int .i64 9, .int .i64 1, .bool true, .int .i64 10, .int .i64 1, .bool false, .int .i64 11, .int .i64 1, .bool true, .int .i64 12, .int .i64 4, .bool true, .int .i64 16, .int .i64 2, .bool false, .int .i64 18, .int .i64 2, .bool false, .int .i64 23, .int .i64 1, .bool false] 98)) ?_ ((Grew.refl _).alloc _) ⟨_, _, rfl, by kernel_rfl, heap_alloc_new _ _⟩)
    clear hd hw hc ho
    simp [execOp, go_sem, e40, e41, e42, e43, e44, e45, e46, e47, e48, e49]
  · intro L a w' hL ho hw hc hd g
    obtain ⟨b, n, e1, hn, hb⟩ : KLeft 98 w kRows L (.inr (.inl (fieldCells [0, 4, 4, 1, 8, 1, 9, -1, 10, 1, 11, -1, 12, -4, 16, 2, 18, 2, 23, 1]))) w' (a.tmps[50]?.getD undef) := hd 52 50 (hw 52 (by kernel_rfl)) (by kernel_rfl)
    refine km_of hd g (by kernel_rfl) (each_value (v := .agg #[.int .i64 24, .slice (some ⟨b, 0, none⟩) n n]) ?_ ⟨b, n, rfl, hn, hb⟩)
    clear hd hw hc ho
    simp [execOp, go_sem, e1]
  · intro L a w' hL ho hw hc hd g
    exact km_insert (k := ⟨54, 1, 38, 24, fieldCells [0, 4, 4, 1, 8, 1, 9, -1, 10, 1, 11, -1, 12, -4, 16, 2, 18, 2, 23, 1]⟩) kRows_good (by simp [kRows]) rfl rfl rfl hL hd hc g (by kernel_rfl) rfl (by kernel_rfl) (hd 0 1 (hw 0 (by kernel_rfl)) (by kernel_rfl)) (hd 41 39 (hw 41 (by kernel_rfl)) (by kernel_rfl)) (hd 53 51 (hw 53 (by kernel_rfl)) (by kernel_rfl))
  · intro L a w' hL ho hw hc hd g
    refine km_of hd g (by kernel_rfl) (each_value (v := keyV 13 1) ?_ rfl)
    simp [execOp, go_sem, keyV]
  · intro L a w' hL ho hw hc hd g
    exact km_of hd g (by kernel_rfl) (each_call (f := 74) (args := #[.int .i64 0, .int .i64 4]) (by simp [go_sem]) ((ubp_unsigned 0 4 w').mono (fun e w'' q => ⟨_, q.1, rfl, q.2⟩)))
  · intro L a w' hL ho hw hc hd g
    exact km_of hd g (by kernel_rfl) (each_call (f := 74) (args := #[.int .i64 4, .int .i64 4]) (by simp [go_sem]) ((ubp_unsigned 4 4 w').mono (fun e w'' q => ⟨_, q.1, rfl, q.2⟩)))
  · intro L a w' hL ho hw hc hd g
    exact km_of hd g (by kernel_rfl) (each_call (f := 75) (args := #[.int .i64 8, .int .i64 4]) (by simp [go_sem]) ((ubp_signed 8 4 w').mono (fun e w'' q => ⟨_, q.1, rfl, q.2⟩)))
  · intro L a w' hL ho hw hc hd g
    exact km_of hd g (by kernel_rfl) (each_call (f := 74) (args := #[.int .i64 12, .int .i64 2]) (by simp [go_sem]) ((ubp_unsigned 12 2 w').mono (fun e w'' q => ⟨_, q.1, rfl, q.2⟩)))
  · intro L a w' hL ho hw hc hd g
    exact km_of hd g (by kernel_rfl) (each_call (f := 74) (args := #[.int .i64 14, .int .i64 1]) (by simp [go_sem]) ((ubp_unsigned 14 1 w').mono (fun e w'' q => ⟨_, q.1, rfl, q.2⟩)))
  · intro L a w' hL ho hw hc hd g
    exact km_of hd g (by kernel_rfl) (each_call (f := 74) (args := #[.int .i64 15, .int .i64 1]) (by simp [go_sem]) ((ubp_unsigned 15 1 w').mono (fun e w'' q => ⟨_, q.1, rfl, q.2⟩)))
  · intro L a w' hL ho hw hc hd g
    have e53 : a.tmps[53]?.getD undef = .agg #[.int .i64 0, .int .i64 4, .bool false] := hd 56 53 (hw 56 (by kernel_rfl)) (by kernel_rfl)
    have e54 : a.tmps[54]?.getD undef = .agg #[.int .i64 4, .int .i64 4, .bool false] := hd 57 54 (hw 57 (by kernel_rfl)) (by kernel_rfl)
    have e55 : a.tmps[55]?.getD undef = .agg #[.int .i64 8, .int .i64 4, .bool true] := hd 58 55 (hw 58 (by kernel_rfl)) (by kernel_rfl)
    have e56 : a.tmps[56]?.getD undef = .agg #[.int .i64 12, .int .i64 2, .bool false] := hd 59 56 (hw 59 (by kernel_rfl)) (by kernel_rfl)
    have e57 : a.tmps[57]?.getD undef = .agg #[.int .i64 14, .int .i64 1, .bool false] := hd 60 57 (hw 60 (by kernel_rfl)) (by kernel_rfl)
    have e58 : a.tmps[58]?.getD undef = .agg #[.int .i64 15, .int .i64 1, .bool false] := hd 61 58 (hw 61 (by kernel_rfl)) (by kernel_rfl)
    refine km_of hd g (by kernel_rfl) (each_made (v := .slice (some ⟨w'.heap.size, 0, none⟩) 6 6) (w1 := w'.alloc (.cells #[.int .i64 0, .int .i64 4, .bool false, .int .i64 4, .int .i64 4, .bool false, .int .i64 8, .int .i64 4, .bool true, .int .i64 12, .int .i64 2, .bool false, .int .i64 14, .int .i64 1, .bool false, .int .i64 15, .int .i64 1, .bool false] 98)) ?_ ((Grew.refl _).alloc _) ⟨_, _, rfl, by kernel_rfl, heap_alloc_new _ _⟩)
    clear hd hw hc ho
    simp [execOp, go_sem, e53, e54, e55, e56, e57, e58]
  · intro L a w' hL ho hw hc hd g
    obtain ⟨b, n, e1, hn, hb⟩ : KLeft 98 w kRows L (.inr (.inl (fieldCells [0, 4, 4, 4, 8, -4, 12, 2, 14, 1, 15, 1]))) w' (a.tmps[59]?.getD undef) := hd 62 59 (hw 62 (by kernel_rfl)) (by kernel_rfl)
    refine km_of hd g (by kernel_rfl) (each_value (v := .agg #[.int .i64 16, .slice (some ⟨b, 0, none⟩) n n]) ?_ ⟨b, n, rfl, hn, hb⟩)
    clear hd hw hc ho
    simp [execOp, go_sem, e1]
  · intro L a w' hL ho hw hc hd g
    exact km_insert (k := ⟨64, 13, 1, 16, fieldCells [0, 4, 4, 4, 8, -4, 12, 2, 14, 1, 15, 1]⟩) kRows_good (by simp [kRows]) rfl rfl rfl hL hd hc g (by kernel_rfl) rfl (by kernel_rfl) (hd 0 1 (hw 0 (by kernel_rfl)) (by kernel_rfl)) (hd 55 52 (hw 55 (by kernel_rfl)) (by kernel_rfl)) (hd 63 60 (hw 63 (by kernel_rfl)) (by kernel_rfl))
  · intro L a w' hL ho hw hc hd g
    refine km_of hd g (by kernel_rfl) (each_value (v := keyV 5 0) ?_ rfl)
    simp [execOp, go_sem, keyV]
  · intro L a w' hL ho hw hc hd g
    exact km_of hd g (by kernel_rfl) (each_call (f := 74) (args := #[.int .i64 0, .int .i64 1]) (by simp [go_sem]) ((ubp_unsigned 0 1 w').mono (fun e w'' q => ⟨_, q.1, rfl, q.2⟩)))
  · intro L a w' hL ho hw hc hd g
    exact km_of hd g (by kernel_rfl) (each_call (f := 74) (args := #[.int .i64 1, .int .i64 1]) (by simp [go_sem]) ((ubp_unsigned 1 1 w').mono (fun e w'' q => ⟨_, q.1, rfl, q.2⟩)))
  · intro L a w' hL ho hw hc hd g
    have e62 : a.tmps[62]?.getD undef = .agg #[.int .i64 0, .int .i64 1, .bool false] := hd 66 62 (hw 66 (by kernel_rfl)) (by kernel_rfl)
    have e63 : a.tmps[63]?.getD undef = .agg #[.int .i64 1, .int .i64 1, .bool false] := hd 67 63 (hw 67 (by kernel_rfl)) (by kernel_rfl)
    refine km_of hd g (by kernel_rfl) (each_made (v := .slice (some ⟨w'.heap.size, 0, none⟩) 2 2) (w1 := w'.alloc (.cells #[.int .i64 0, .int .i64 1, .bool false, .int .i64 1, .int .i64 1, .bool false] 98)) ?_ ((Grew.refl _).alloc _) ⟨_, _, rfl, by kernel_rfl, heap_alloc_new _ _⟩)
    clear hd hw hc ho
    simp [execOp, go_sem, e62, e63]
  · intro L a w' hL ho hw hc hd g
    obtain ⟨b, n, e1, hn, hb⟩ : KLeft 98 w kRows L (.inr (.inl (fieldCells [0, 1, 1, 1]))) w' (a.tmps[64]?.getD undef) := hd 68 64 (hw 68 (by kernel_rfl)) (by kernel_rfl)
    refine km_of hd g (by kernel_rfl) (each_value (v := .agg #[.int .i64 2, .slice (some ⟨b, 0, none⟩) n n]) ?_ ⟨b, n, rfl, hn, hb⟩)
    clear hd hw hc ho
    simp [execOp, go_sem, e1]
  · intro L a w' hL ho hw hc hd g
    exact km_insert (k := ⟨70, 5, 0, 2, fieldCells [0, 1, 1, 1]⟩) kRows_good (by simp [kRows]) rfl rfl rfl hL hd hc g (by kernel_rfl) rfl (by kernel_rfl) (hd 0 1 (hw 0 (by kernel_rfl)) (by kernel_rfl)) (hd 65 61 (hw 65 (by kernel_rfl)) (by kernel_rfl)) (hd 69 65 (hw 69 (by kernel_rfl)) (by kernel_rfl))
  · intro L a w' hL ho hw hc hd g
    refine km_of hd g (by kernel_rfl) (each_value (v := keyV 5 1) ?_ rfl)
    simp [execOp, go_sem, keyV]
  · intro L a w' hL ho hw hc hd g
    exact km_of hd g (by kernel_rfl) (each_call (f := 74) (args := #[.int .i64 0, .int .i64 1]) (by simp [go_sem]) ((ubp_unsigned 0 1 w').mono (fun e w'' q => ⟨_, q.1, rfl, q.2⟩)))
  · intro L a w' hL ho hw hc hd g
    exact km_of hd g (by kernel_rfl) (each_call (f := 74) (args := #[.int .i64 1, .int .i64 1]) (by simp [go_sem]) ((ubp_unsigned 1 1 w').mono (fun e w'' q => ⟨_, q.1, rfl, q.2⟩)))
  · intro L a w' hL ho hw hc hd g
    have e67 : a.tmps[67]?.getD undef = .agg #[.int .i64 0, .int .i64 1, .bool false] := hd 72 67 (hw 72 (by kernel_rfl)) (by kernel_rfl)
    have e68 : a.tmps[68]?.getD undef = .agg #[.int .i64 1, .int .i64 1, .bool false] := hd 73 68 (hw 73 (by kernel_rfl)) (by kernel_rfl)
    refine km_of hd g (by kernel_rfl) (each_made (v := .slice (some ⟨w'.heap.size, 0, none⟩) 2 2) (w1 := w'.alloc (.cells #[.int .i64 0, .int .i64 1, .bool false, .int .i64 1, .int .i64 1, .bool false] 98)) ?_ ((Grew.refl _).alloc _) ⟨_, _, rfl, by kernel_rfl, heap_alloc_new _ _⟩)
    clear hd hw hc ho
    simp [execOp, go_sem, e67, e68]
  · intro L a w' hL ho hw hc hd g
    obtain ⟨b, n, e1, hn, hb⟩ : KLeft 98 w kRows L (.inr (.inl (fieldCells [0, 1, 1, 1]))) w' (a.tmps[69]?.getD undef) := hd 74 69 (hw 74 (by kernel_rfl)) (by kernel_rfl)
    refine km_of hd g (by kernel_rfl) (each_value (v := .agg #[.int .i64 2, .slice (some ⟨b, 0, none⟩) n n]) ?_ ⟨b, n, rfl, hn, hb⟩)
    clear hd hw hc ho
    simp [execOp, go_sem, e1]
  · intro L a w' hL ho hw hc hd g
    exact km_insert (k := ⟨76, 5, 1, 2, fieldCells [0, 1, 1, 1]⟩) kRows_good (by simp [kRows]) rfl rfl rfl hL hd hc g (by kernel_rfl) rfl (by kernel_rfl) (hd 0 1 (hw 0 (by kernel_rfl)) (by kernel_rfl)) (hd 71 66 (hw 71 (by kernel_rfl)) (by kernel_rfl)) (hd 75 70 (hw 75 (by kernel_rfl)) (by kernel_rfl))
  · intro L a w' hL ho hw hc hd g
    refine km_of hd g (by kernel_rfl) (each_value (v := keyV 6 1) ?_ rfl)
    simp [execOp, go_sem, keyV]
  · intro L a w' hL ho hw hc hd g
    exact km_of hd g (by kernel_rfl) (each_call (f := 74) (args := #[.int .i64 0, .int .i64 1]) (by simp [go_sem]) ((ubp_unsigned 0 1 w').mono (fun e w'' q => ⟨_, q.1, rfl, q.2⟩)))
  · intro L a w' hL ho hw hc hd g
    exact km_of hd g (by kernel_rfl) (each_call (f := 74) (args := #[.int .i64 1, .int .i64 1]) (by simp [go_sem]) ((ubp_unsigned 1 1 w').mono (fun e w'' q => ⟨_, q.1, rfl, q.2⟩)))
  · intro L a w' hL ho hw hc hd g
    exact km_of hd g (by kernel_rfl) (each_call (f := 74) (args := #[.int .i64 2, .int .i64 1]) (by simp [go_sem]) ((ubp_unsigned 2 1 w').mono (fun e w'' q => ⟨_, q.1, rfl, q.2⟩)))
  · intro L a w' hL ho hw hc hd g
    have e72 : a.tmps[72]?.getD undef = .agg #[.int .i64 0, .int .i64 1, .bool false] := hd 78 72 (hw 78 (by kernel_rfl)) (by kernel_rfl)
    have e73 : a.tmps[73]?.getD undef = .agg #[.int .i64 1, .int .i64 1, .bool false] := hd 79 73 (hw 79 (by kernel_rfl)) (by kernel_rfl)
    have e74 : a.tmps[74]?.getD undef = .agg #[.int .i64 2, .int .i64 1, .bool false] := hd 80 74 (hw 80 (by kernel_rfl)) (by kernel_rfl)
    refine km_of hd g (by kernel_rfl) (each_made (v := .slice (some ⟨w'.heap.size, 0, none⟩) 3 3) (w1 := w'.alloc (.cells #[.int .i64 0, .int .i64 1, .bool false, .int .i64 1, .int .i64 1, .bool false, .int .i64 2, .int .i64 1, .bool false] 98)) ?_ ((Grew.refl _).alloc _) ⟨_, _, rfl, by kernel_rfl, heap_alloc_new _ _⟩)
    clear hd hw hc ho
    simp [execOp, go_sem, e72, e73, e74]
  · intro L a w' hL ho hw hc hd g
    obtain ⟨b, n, e1, hn, hb⟩ : KLeft 98 w kRows L (.inr (.inl (fieldCells [0, 1, 1, 1, 2, 1]))) w' (a.tmps[75]?.getD undef) := hd 81 75 (hw 81 (by kernel_rfl)) (by kernel_rfl)
    refine km_of hd g (by kernel_rfl) (each_value (v := .agg #[.int .i64 3, .slice (some ⟨b, 0, none⟩) n n]) ?_ ⟨b, n, rfl, hn, hb⟩)
    clear hd hw hc ho
    simp [execOp, go_sem, e1]
  · intro L a w' hL ho hw hc hd g
    exact km_insert (k := ⟨83, 6, 1, 3, fieldCells [0, 1, 1, 1, 2, 1]⟩) kRows_good (by simp [kRows]) rfl rfl rfl hL hd hc g (by kernel_rfl) rfl (by kernel_rfl) (hd 0 1 (hw 0 (by kernel_rfl)) (by kernel_rfl)) (hd 77 71 (hw 77 (by kernel_rfl)) (by kernel_rfl)) (hd 82 76 (hw 82 (by kernel_rfl)) (by kernel_rfl))
  · intro L a w' hL ho hw hc hd g
    refine km_of hd g (by kernel_rfl) (each_value (v := keyV 6 8) ?_ rfl)
    simp [execOp, go_sem, keyV]
  · intro L a w' hL ho hw hc hd g
    exact km_of hd g (by kernel_rfl) (each_call (f := 74) (args := #[.int .i64 0, .int .i64 2]) (by simp [go_sem]) ((ubp_unsigned 0 2 w').mono (fun e w'' q => ⟨_, q.1, rfl, q.2⟩)))
  · intro L a w' hL ho hw hc hd g
    exact km_of hd g (by kernel_rfl) (each_call (f := 74) (args := #[.int .i64 2, .int .i64 2]) (by simp [go_sem]) ((ubp_unsigned 2 2 w').mono (fun e w'' q => ⟨_, q.1, rfl, q.2⟩)))
  · intro L a w' hL ho hw hc hd g
    exact km_of hd g (by kernel_rfl) (each_call (f := 74) (args := #[.int .i64 4, .int .i64 2]) (by simp [go_sem]) ((ubp_unsigned 4 2 w').mono (fun e w'' q => ⟨_, q.1, rfl, q.2⟩)))
  · intro L a w' hL ho hw hc hd g
    have e78 : a.tmps[78]?.getD undef = .agg #[.int .i64 0, .int .i64 2, .bool false] := hd 85 78 (hw 85 (by kernel_rfl)) (by kernel_rfl)
    have e79 : a.tmps[79]?.getD undef = .agg #[.int .i64 2, .int .i64 2, .bool false] := hd 86 79 (hw 86 (by kernel_rfl)) (by kernel_rfl)
    have e80 : a.tmps[80]?.getD undef = .agg #[.int .i64 4, .int .i64 2, .bool false] := hd 87 80 (hw 87 (by kernel_rfl)) (by kernel_rfl)
    refine km_of hd g (by kernel_rfl) (each_made (v := .slice (some ⟨w'.heap.size, 0, none⟩) 3 3) (w1 := w'.alloc (.cells #[.int .i64 0, .int .i64 2, .bool false, .int .i64 2, .int .i64 2, .bool false, .int .i64 4, .int .i64 2, .bool false] 98)) ?_ ((Grew.refl _).alloc _) ⟨_, _, rfl, by kernel_rfl, heap_alloc_new _ _⟩)
    clear hd hw hc ho
    simp [execOp, go_sem, e78, e79, e80]
  · intro L a w' hL ho hw hc hd g
    obtain ⟨b, n, e1, hn, hb⟩ : KLeft 98 w kRows L (.inr (.inl (fieldCells [0, 2, 2, 2, 4, 2]))) w' (a.tmps[81]?.getD undef) := hd 88 81 (hw 88 (by kernel_rfl)) (by kernel_rfl)
    refine km_of hd g (by kernel_rfl) (each_value (v := .agg #[.int .i64 6, .slice (some ⟨b, 0, none⟩) n n]) ?_ ⟨b, n, rfl, hn, hb⟩)
    clear hd hw hc ho
    simp [execOp, go_sem, e1]
  · intro L a w' hL ho hw hc hd g
    exact km_insert (k := ⟨90, 6, 8, 6, fieldCells [0, 2, 2, 2, 4, 2]⟩) kRows_good (by simp [kRows]) rfl rfl rfl hL hd hc g (by kernel_rfl) rfl (by kernel_rfl) (hd 0 1 (hw 0 (by kernel_rfl)) (by kernel_rfl)) (hd 84 77 (hw 84 (by kernel_rfl)) (by kernel_rfl)) (hd 89 82 (hw 89 (by kernel_rfl)) (by kernel_rfl))
  · intro L a w' hL ho hw hc hd g
    refine km_of hd g (by kernel_rfl) (each_value (v := keyV 6 49) ?_ rfl)
    simp [execOp, go_sem, keyV]
  · intro L a w' hL ho hw hc hd g
    exact km_of hd g (by kernel_rfl) (each_call (f := 74) (args := #[.int .i64 0, .int .i64 1]) (by simp [go_sem]) ((ubp_unsigned 0 1 w').mono (fun e w'' q => ⟨_, q.1, rfl, q.2⟩)))
  · intro L a w' hL ho hw hc hd g
    exact km_of hd g (by kernel_rfl) (each_call (f := 75) (args := #[.int .i64 4, .int .i64 2]) (by simp [go_sem]) ((ubp_signed 4 2 w').mono (fun e w'' q => ⟨_, q.1, rfl, q.2⟩)))
  · intro L a w' hL ho hw hc hd g
    exact km_of hd g (by kernel_rfl) (each_call (f := 74) (args := #[.int .i64 8, .int .i64 4]) (by simp [go_sem]) ((ubp_unsigned 8 4 w').mono (fun e w'' q => ⟨_, q.1, rfl, q.2⟩)))
  · intro L a w' hL ho hw hc hd g
    exact km_of hd g (by kernel_rfl) (each_call (f := 74) (args := #[.int .i64 16, .int .i64 4]) (by simp [go_sem]) ((ubp_unsigned 16 4 w').mono (fun e w'' q => ⟨_, q.1, rfl, q.2⟩)))
  · intro L a w' hL ho hw hc hd g
    exact km_of hd g (by kernel_rfl) (each_call (f := 74) (args := #[.int .i64 28, .int .i64 4]) (by simp [go_sem]) ((ubp_unsigned 28 4 w').mono (fun e w'' q => ⟨_, q.1, rfl, q.2⟩)))
  · intro L a w' hL ho hw hc hd g
    have e84 : a.tmps[84]?.getD undef = .agg #[.int .i64 0, .int .i64 1, .bool false] := hd 92 84 (hw 92 (by kernel_rfl)) (by kernel_rfl)
    have e85 : a.tmps[85]?.getD undef = .agg #[.int .i64 4, .int .i64 2, .bool true] := hd 93 85 (hw 93 (by kernel_rfl)) (by kernel_rfl)
    have e86 : a.tmps[86]?.getD undef = .agg #[.int .i64 8, .int .i64 4, .bool false] := hd 94 86 (hw 94 (by kernel_rfl)) (by kernel_rfl)
    have e87 : a.tmps[87]?.getD undef = .agg #[.int .i64 16, .int .i64 4, .bool false] := hd 95 87 (hw 95 (by kernel_rfl)) (by kernel_rfl)
    have e88 : a.tmps[88]?.getD undef = .agg #[.int .i64 28, .int .i64 4, .bool false] := hd 96 88 (hw 96 (by kernel_rfl)) (by kernel_rfl)
    refine km_of hd g (by kernel_rfl) (each_made (v := .slice (some ⟨w'.heap.size, 0, none⟩) 5 5) (w1 := w'.alloc (.cells #[.int .i64 0, .int .i64 1, .bool false, .int .i64 4, .int .i64 2, .bool true, .int .i64 8, .int .i64 4, .bool false, .int .i64 16, .int .i64 4, .bool false, .int .i64 28, .int .i64 4, .bool false] 98)) ?_ ((Grew.refl _).alloc _) ⟨_, _, rfl, by kernel_rfl, heap_alloc_new _ _⟩)
    clear hd hw hc ho
    simp [execOp, go_sem, e84, e85, e86, e87, e88]
  · intro L a w' hL ho hw hc hd g
    obtain ⟨b, n, e1, hn, hb⟩ : KLeft 98 w kRows L (.inr (.inl (fieldCells [0, 1, 4, -2, 8, 4, 16, 4, 28, 4]))) w' (a.tmps[89]?.getD undef) := hd 97 89 (hw 97 (by kernel_rfl)) (by kernel_rfl)
    refine km_of hd g (by kernel_rfl) (each_value (v := .agg #[.int .i64 32, .slice (some ⟨b, 0, none⟩) n n]) ?_ ⟨b, n, rfl, hn, hb⟩)
    clear hd hw hc ho
    simp [execOp, go_sem, e1]
  · intro L a w' hL ho hw hc hd g
    exact km_insert (k := ⟨99, 6, 49, 32, fieldCells [0, 1, 4, -2, 8, 4, 16, 4, 28, 4]⟩) kRows_good (by simp [kRows]) rfl rfl rfl hL hd hc g (by kernel_rfl) rfl (by kernel_rfl) (hd 0 1 (hw 0 (by kernel_rfl)) (by kernel_rfl)) (hd 91 83 (hw 91 (by kernel_rfl)) (by kernel_rfl)) (hd 98 90 (hw 98 (by kernel_rfl)) (by kernel_rfl))
  · intro L a w' hL ho hw hc hd g
    obtain ⟨m, e1, hm⟩ : KLeft 98 w kRows L (.inr (.inr (.inr ()))) w' (a.tmps[1]?.getD undef) := hd 0 1 (hw 0 (by kernel_rfl)) (by kernel_rfl)
    refine km_of hd g (by kernel_rfl) (each_value (v := .map (some m)) ?_ ⟨m, rfl, hm.also (Grew.refl _) (fun k hk => by have := List.all_eq_true.1 (show kRows.all (fun k => k.at_ != 100) = true by kernel_rfl) k hk; simpa using this)⟩)
    clear hd hw hc ho
    simp [execOp, go_sem, e1]
  · intro L a w' hL ho hw hc hd g
    obtain ⟨m, e1, hm⟩ : KLeft 98 w kRows L (.inr (.inr (.inr ()))) w' (a.tmps[91]?.getD undef) := hd 100 91 (hw 100 (by kernel_rfl)) (by kernel_rfl)
    refine km_of hd g (by kernel_rfl) (each_value (v := .map (some m)) ?_ ⟨m, rfl, hm.also (Grew.refl _) (fun k hk => by have := List.all_eq_true.1 (show kRows.all (fun k => k.at_ != 101) = true by kernel_rfl) k hk; simpa using this)⟩)
    clear hd hw hc ho
    simp [execOp, go_sem, e1]
end Go.Proofs.YtnhigfkhdmkoeaaGreatDoor

namespace Go.Proofs.YtnhigfkhdmkoeaaGreatDoor
open Go.RowKit
set_option linter.unusedVariables false

theorem fieldCells_length : ∀ l : List Int, (fieldCells l).length = 3 * (l.length / 2)
  | [] => by simp [fieldCells]
  | [_] => by simp [fieldCells]
  | p :: s :: r => by rw [fieldCells, List.length_cons, List.length_cons, List.length_cons, fieldCells_length r, List.length_cons, List.length_cons]; omega
theorem zi_cons2 (p s : Int) (r : List Int) (i : Nat) : zi (p :: s :: r) (i + 2) = zi r i := rfl
theorem fieldCells_at : ∀ (l : List Int) (k : Nat), 2 * k + 1 < l.length → (fieldCells l)[k * 3]? = some (.int .i64 (zi l (2 * k))) ∧ (fieldCells l)[k * 3 + 1]? = some (.int .i64 ((zi l (2 * k + 1)).natAbs : Nat)) ∧ (fieldCells l)[k * 3 + 2]? = some (.bool (decide (zi l (2 * k + 1) < 0)))
  | [], k, h => by simp at h
  | [_], k, h => by simp at h
  | p :: s :: r, 0, _ => by simp [fieldCells, zi]
  | p :: s :: r, k + 1, h => by
    have ih := fieldCells_at r k (by simp at h; omega)
    rw [show 2 * (k + 1) = 2 * k + 2 from rfl, show 2 * k + 2 + 1 = (2 * k + 1) + 2 by omega, zi_cons2, zi_cons2, fieldCells, show (k + 1) * 3 = (k * 3) + 1 + 1 + 1 by omega]
    simpa using ih
/-- A kind's layout as it stands. -/
def LayAt (w : World) (v : Value) (c : Nat) : Prop :=
  ∃ (A : Option Addr) (cap : Nat), v = .agg #[.int .i64 ((ubxLay c).1 : Nat), .slice A ((ubxLay c).2.length / 2) cap] ∧
    (∀ k, 2 * k + 1 < (ubxLay c).2.length → ∃ b, A = some ⟨b, 0, none⟩ ∧ b < w.heap.size ∧ w.cell? ⟨b, k * 3, none⟩ = some (.int .i64 (zi (ubxLay c).2 (2 * k))) ∧ w.cell? ⟨b, k * 3 + 1, none⟩ = some (.int .i64 ((zi (ubxLay c).2 (2 * k + 1)).natAbs : Nat)) ∧ w.cell? ⟨b, k * 3 + 2, none⟩ = some (.bool (decide (zi (ubxLay c).2 (2 * k + 1) < 0))))
theorem kRows_is : ∀ k ∈ kRows, k.a < 256 ∧ k.b < 256 ∧ k.len = (ubxLay (k.a * 256 + k.b)).1 ∧ k.cs = fieldCells (ubxLay (k.a * 256 + k.b)).2 ∧ (ubxLay (k.a * 256 + k.b)).1 ≠ 0 := by
  unfold kRows
  intro k hk
  simp only [List.mem_cons, List.not_mem_nil, or_false] at hk
  rcases hk with rfl | rfl | rfl | rfl | rfl | rfl | rfl | rfl | rfl | rfl <;> exact ⟨by decide, by decide, by kernel_rfl, by kernel_rfl, by decide⟩
theorem kRows_has (a b : Nat) (ha : a < 256) (hb : b < 256) (h : (ubxLay (a * 256 + b)).1 ≠ 0) : ∃ k ∈ kRows, k.a = a ∧ k.b = b := by
  by_cases q : isUbx (a * 256 + b)
  · have hany : ∀ (x y : Nat), x = a → y = b → (kRows.any fun k => k.a == x && k.b == y) = true → ∃ k ∈ kRows, k.a = a ∧ k.b = b := fun x y hx hy h => by
      obtain ⟨k, hk, he⟩ := List.any_eq_true.1 h
      simp only [Bool.and_eq_true, beq_iff_eq] at he
      exact ⟨k, hk, he.1.trans hx, he.2.trans hy⟩
    unfold isUbx at q
    rcases q with q | q | q | q | q | q | q | q | q | q
    · exact hany 1 7 (by omega) (by omega) (by kernel_rfl)
    · exact hany 1 32 (by omega) (by omega) (by kernel_rfl)
    · exact hany 1 33 (by omega) (by omega) (by kernel_rfl)
    · exact hany 1 38 (by omega) (by omega) (by kernel_rfl)
    · exact hany 13 1 (by omega) (by omega) (by kernel_rfl)
    · exact hany 5 0 (by omega) (by omega) (by kernel_rfl)
    · exact hany 5 1 (by omega) (by omega) (by kernel_rfl)
    · exact hany 6 1 (by omega) (by omega) (by kernel_rfl)
    · exact hany 6 8 (by omega) (by omega) (by kernel_rfl)
    · exact hany 6 49 (by omega) (by omega) (by kernel_rfl)
  · rw [ubx_no q] at h
    exact absurd rfl h
theorem keyV_inj {a b c d : Nat} (h : keyV a b = keyV c d) : a = c ∧ b = d := by
  simp [keyV] at h
  omega
/-- A kind's layout as it stands, by its block. -/
def LayH (w : World) (v : Value) (c : Nat) : Prop :=
  ∃ (A : Option Addr) (cap : Nat), v = .agg #[.int .i64 ((ubxLay c).1 : Nat), .slice A ((ubxLay c).2.length / 2) cap] ∧
    (1 < (ubxLay c).2.length → ∃ b, A = some ⟨b, 0, none⟩ ∧ w.heap[b]? = some (.cells (fieldCells (ubxLay c).2).toArray 98))
theorem LayH.at_ {w : World} {v : Value} {c : Nat} (h : LayH w v c) : LayAt w v c := by
  obtain ⟨A, cap, rfl, hb⟩ := h
  refine ⟨A, cap, rfl, fun j hj => ?_⟩
  obtain ⟨fb, rfl, hblk⟩ := hb (by omega)
  refine ⟨fb, rfl, (Array.getElem?_eq_some_iff.1 hblk).1, ?_⟩
  have hc := fieldCells_at _ j hj
  rw [cell_of_row w fb _ _ _ _ hblk, cell_of_row w fb _ _ _ _ hblk, cell_of_row w fb _ _ _ _ hblk]
  simpa using hc
theorem kinds_hitH (w : World) (v : Value) (h : KindsAt w v) (a b : Nat) (ha : a < 256) (hb : b < 256) (hn : (ubxLay (a * 256 + b)).1 ≠ 0) :
    ∃ lv, (Instr.lookup 93 v (keyV a b) true).run Tryz.prog w = .ok (.tuple #[lv, .bool true]) w ∧ LayH w lv (a * 256 + b) := by
  obtain ⟨m, es, clk, rfl, hm, h1, h2⟩ := h
  obtain ⟨k, hk, rfl, rfl⟩ := kRows_has a b ha hb hn
  obtain ⟨e0, he0, hk0⟩ := h2 k hk
  obtain ⟨e, he, hkey, hrun⟩ := run_hit w m k.a k.b es clk hm (fun e he => by obtain ⟨k', _, hx, _⟩ := h1 e he; exact ⟨k'.a, k'.b, hx⟩) ⟨e0, he0, hk0.1⟩
  refine ⟨e.val, hrun, ?_⟩
  obtain ⟨k', hk', hx, fb, n, hval, hlen, hblk⟩ := h1 e he
  obtain ⟨q1, q2⟩ := keyV_inj (hx.symm.trans hkey)
  obtain ⟨_, _, i1, i2, _⟩ := kRows_is k' hk'
  rw [q1, q2] at i1 i2
  rw [i2, fieldCells_length, Nat.mul_div_cancel_left _ (by decide)] at hlen
  subst hlen
  rw [i2] at hblk
  exact ⟨some ⟨fb, 0, none⟩, _, by rw [hval, i1], fun _ => ⟨fb, rfl, hblk⟩⟩
theorem kinds_hit (w : World) (v : Value) (h : KindsAt w v) (a b : Nat) (ha : a < 256) (hb : b < 256) (hn : (ubxLay (a * 256 + b)).1 ≠ 0) :
    ∃ lv, (Instr.lookup 93 v (keyV a b) true).run Tryz.prog w = .ok (.tuple #[lv, .bool true]) w ∧ LayAt w lv (a * 256 + b) := by
  obtain ⟨lv, h1, h2⟩ := kinds_hitH w v h a b ha hb hn
  exact ⟨lv, h1, h2.at_⟩
theorem kinds_miss (w : World) (v : Value) (h : KindsAt w v) (a b : Nat) (hn : (ubxLay (a * 256 + b)).1 = 0) :
    (Instr.lookup 93 v (keyV a b) true).run Tryz.prog w = .ok (.tuple #[.agg #[.int .i64 0, .slice none 0 0], .bool false]) w := by
  obtain ⟨m, es, clk, rfl, hm, h1, h2⟩ := h
  refine run_miss w m a b es clk hm fun e he => ?_
  obtain ⟨k', hk', hx, _⟩ := h1 e he
  refine ⟨k'.a, k'.b, hx, ?_⟩
  have := (kRows_is k' hk').2.2.2.2
  by_cases q : (a == k'.a && b == k'.b) = true
  · simp only [Bool.and_eq_true, beq_iff_eq] at q
    rw [← q.1, ← q.2] at this
    exact absurd hn this
  · simpa using q
theorem LayAt.far {F : Nat → Prop} {w w' : World} {v : Value} {c : Nat} (h : LayAt w v c) (g : Far F w w') (hF : ∀ b, b < w.heap.size → ¬ F b) : LayAt w' v c := by
  obtain ⟨A, cap, rfl, hc⟩ := h
  refine ⟨A, cap, rfl, fun k hk => ?_⟩
  obtain ⟨b, rfl, hb, c0, c1, c2⟩ := hc k hk
  exact ⟨b, rfl, Nat.lt_of_lt_of_le hb g.size, (g.cell (p := ⟨b, k * 3, none⟩) hb (hF b hb)).trans c0, (g.cell (p := ⟨b, k * 3 + 1, none⟩) hb (hF b hb)).trans c1, (g.cell (p := ⟨b, k * 3 + 2, none⟩) hb (hF b hb)).trans c2⟩
theorem LayAt.grew {w w' : World} {v : Value} {c : Nat} (h : LayAt w v c) (g : Grew w w') : LayAt w' v c := h.far (F := fun _ => False) (Far.of_grew g) (fun _ _ q => q)
theorem lay_no {c : Nat} (h : (ubxLay c).1 = 0) : ubxLay c = (0, []) := by
  by_cases q : isUbx c
  · unfold isUbx at q
    rcases q with rfl | rfl | rfl | rfl | rfl | rfl | rfl | rfl | rfl | rfl <;> exact absurd h (by decide)
  · exact ubx_no q
/-- A key looked up, whether it is there or not. -/
theorem kinds_look (w : World) (v : Value) (h : KindsAt w v) (a b : Nat) (ha : a < 256) (hb : b < 256) :
    ∃ lv, (Instr.lookup 93 v (keyV a b) true).run Tryz.prog w = .ok (.tuple #[lv, .bool (decide ((ubxLay (a * 256 + b)).1 ≠ 0))]) w ∧ LayH w lv (a * 256 + b) := by
  by_cases hn : (ubxLay (a * 256 + b)).1 = 0
  · refine ⟨_, by rw [kinds_miss w v h a b hn, hn]; rfl, none, 0, by rw [lay_no hn]; rfl, fun q => ?_⟩
    rw [lay_no hn] at q
    exact absurd q (by decide)
  · obtain ⟨lv, h1, h2⟩ := kinds_hitH w v h a b ha hb hn
    exact ⟨lv, by rw [h1, decide_eq_true hn], h2⟩
theorem KindsAt.grew {w w' : World} {v : Value} (h : KindsAt w v) (g : Grew w w') : KindsAt w' v := by
  obtain ⟨m, es, clk, rfl, hm, h1, h2⟩ := h
  refine ⟨m, es, clk, rfl, (Below.block g m (Array.getElem?_eq_some_iff.1 hm).1).trans hm, fun e he => ?_, fun k hk => ?_⟩
  · obtain ⟨k, hk, hx⟩ := h1 e he
    exact ⟨k, hk, hx.kept (.of_grew g)⟩
  · obtain ⟨e, he, hx⟩ := h2 k hk
    exact ⟨e, he, hx.kept (.of_grew g)⟩
theorem LayH.kept {w w' : World} {v : Value} {c : Nat} (h : LayH w v c) (g : ∀ (b : Nat) (cs : Array Value), w.heap[b]? = some (.cells cs 98) → w'.heap[b]? = some (.cells cs 98)) : LayH w' v c := by
  obtain ⟨A, cap, rfl, hb⟩ := h
  refine ⟨A, cap, rfl, fun hl => ?_⟩
  obtain ⟨b, e, hx⟩ := hb hl
  exact ⟨b, e, g _ _ hx⟩
end Go.Proofs.YtnhigfkhdmkoeaaGreatDoor

namespace Go.Proofs.YtnhigfkhdmkoeaaGreatDoor
open Go.RowKit
set_option linter.unusedVariables false

theorem bits_or_i64 (a b : Nat) (ha : a < 9223372036854775808) (hb : b < 9223372036854775808) : bits .or .i64 (a : Int) (b : Int) = ((a ||| b : Nat) : Int) := by
  have ha' : a < 2 ^ 63 := ha
  have hb' : b < 2 ^ 63 := hb
  have hx : a ||| b < 2 ^ 63 := Nat.or_lt_two_pow ha' hb'
  have h1 : (BitVec.ofInt 64 (a : Int)).toNat = a := by rw [BitVec.ofInt_natCast, BitVec.toNat_ofNat]; exact Nat.mod_eq_of_lt (by omega)
  have h2 : (BitVec.ofInt 64 (b : Int)).toNat = b := by rw [BitVec.ofInt_natCast, BitVec.toNat_ofNat]; exact Nat.mod_eq_of_lt (by omega)
  show IntKind.i64.wrap ((BitVec.ofInt 64 (a : Int) ||| BitVec.ofInt 64 (b : Int)).toNat : Int) = _
  rw [BitVec.toNat_or, h1, h2]
  exact IntWalk.i64_in _ (by omega)
theorem or_byte (n x i : Nat) (hn : n < 256 ^ i) (hx : x < 256) (hi : i < 4) : bits .or .i64 (n : Int) (wrap64 ((x : Int) * 2 ^ (8 * i))) = ((n + x * 256 ^ i : Nat) : Int) := by
  have hp : 256 ^ i = 2 ^ (8 * i) := by rw [show (256 : Nat) = 2 ^ 8 from rfl, ← Nat.pow_mul]
  have hle : 2 ^ (8 * i) ≤ 2 ^ 24 := Nat.pow_le_pow_right (by decide) (by omega)
  have hxm : x * 2 ^ (8 * i) ≤ 255 * 2 ^ (8 * i) := Nat.mul_le_mul_right _ (by omega)
  rw [hp] at hn ⊢
  have hc : (x : Int) * 2 ^ (8 * i) = ((x * 2 ^ (8 * i) : Nat) : Int) := by rw [Int.natCast_mul, Int.natCast_pow]; rfl
  rw [hc, IntWalk.wrap64_in _ (by omega), bits_or_i64 _ _ (by omega) (by omega)]
  have := Nat.two_pow_add_eq_or_of_lt hn x
  rw [Nat.mul_comm] at this
  rw [Nat.or_comm, ← this]
  omega
theorem sign_byte (n m : Nat) (hm : 0 < m ∧ m ≤ 4) (hn : n < 256 ^ m) : wrap64 ((n : Int) * 2 ^ (64 - 8 * m)) / 2 ^ (64 - 8 * m) = if 256 ^ m / 2 ≤ n then (n : Int) - (256 ^ m : Nat) else (n : Int) := by
  unfold wrap64
  match m, hm with
  | 1, _ => simp only [Nat.reducePow, Nat.reduceMul, Nat.reduceSub, Nat.reduceDiv, Int.reducePow] at hn ⊢; split <;> omega
  | 2, _ => simp only [Nat.reducePow, Nat.reduceMul, Nat.reduceSub, Nat.reduceDiv, Int.reducePow] at hn ⊢; split <;> omega
  | 3, _ => simp only [Nat.reducePow, Nat.reduceMul, Nat.reduceSub, Nat.reduceDiv, Int.reducePow] at hn ⊢; split <;> omega
  | 4, _ => simp only [Nat.reducePow, Nat.reduceMul, Nat.reduceSub, Nat.reduceDiv, Int.reducePow] at hn ⊢; split <;> omega
-- [READ
set_option maxRecDepth 100000 in
set_option maxHeartbeats 2000000 in
theorem ubp_read (v : Value) (S : List Nat) (p m : Nat) (neg : Bool) (w : World) (hr : Row .u8 w v S) (hB : Bytes S) (hp : p + m ≤ S.length) (hm : 0 < m ∧ m ≤ 4) (hl : S.length ≤ 100000) :
    Calls Tryz.prog 53 #[.agg #[.int .i64 (p : Nat), .int .i64 (m : Nat), .bool neg], v] w fun e w' => e = .returned (.int .i64 (getZ S p (if neg then -(m : Int) else (m : Int)))) ∧ Grew w w' := by
  have HN := Lib.hid (fun k => numLE_lt S p hB k)
  obtain ⟨A, c, rfl, hc, hrow⟩ := hr
  have HR := Lib.hid hrow
  have HB := Lib.hid hB
  clear hrow hB
  go_enter Tryz.func53, Tryz.ntmps53
  go_upto_region 1 with fail
  obtain ⟨W, hW, g0, T0⟩ := three_new w (.int .i64 (p : Nat)) (.int .i64 (m : Nat)) (.bool neg) 98
  rw [hW]
  clear hW
  have T1 := Lib.hid T0
  obtain ⟨tl, t0, t1, t2, f0, f1, f2⟩ := T0
  go_wp2_with fail
  go_loopg [5, 10] m (fun kx s t wr => ∃ i : Nat, i + kx = m ∧ s = .int .i64 (numLE S p i : Nat) ∧ t = .int .i64 i ∧ Hid (Grew W wr))
  case atStart => exact ⟨0, by omega, rfl, rfl, Lib.hid (Grew.refl _)⟩
  case round =>
    obtain ⟨i, hi, rfl, rfl, hg⟩ := hrel
    by_cases hlt : i < m
    · obtain ⟨b, o, rfl, hb, hcell⟩ := HR.out (by omega)
      have hx := ((g0.trans hg.out).cell (p := ⟨b, o + (p + i), none⟩) hb).trans (hcell (p + i) (by omega))
      obtain ⟨_, u0, u1, u2, _, _, _⟩ := T1.out.grew hg.out
      have hs := Lib.hid (or_byte (numLE S p i) (wd S (p + i)) i (HN.out i) (HB.out (p + i)) (by omega))
      have n2 := HB.out (p + i)
      have hs1 : Hid (numLE S p (i + 1) = numLE S p i + wd S (p + i) * 256 ^ i) := Lib.hid rfl
      generalize wd S (p + i) = x at *
      have e0 : IntKind.i64.wrap ((p : Int) + (i : Int)) = ((p + i : Nat) : Int) := by rw [IntWalk.i64_in _ (by omega)]; omega
      have b1 : (0 : Int) ≤ (p : Int) + i := by omega
      have b2 : (p : Int) + i < S.length := by omega
      clear hcell
      go_wp2_with fail
      rw [hs.out]
      go_roundg (m - (i + 1))
      case measure => omega
      case rel => exact ⟨i + 1, by omega, by rw [hs1.out], by go_num, hg⟩
    · obtain rfl : i = m := by omega
      obtain ⟨_, u0, u1, u2, _, _, _⟩ := T1.out.grew hg.out
      cases neg
      · go_wp2_with fail
        go_ret
        exact ⟨by simp [getZ_pos], g0.trans hg.out⟩
      · have hs := Lib.hid (sign_byte (numLE S p i) i hm (HN.out i))
        have hz := Lib.hid (getZ_neg S p i hm.1)
        go_wp2_with fail
        rw [hs.out, ← hz.out]
        go_ret
        exact ⟨by simp, g0.trans hg.out⟩
-- READ]
-- [WRITE
theorem shr_byte (v : Int) (i : Nat) : v / 2 ^ (8 * i) % 256 = (byteZ v i : Nat) := by
  have hp : (2 : Int) ^ (8 * i) = ((256 ^ i : Nat) : Int) := by rw [show (256 : Nat) = 2 ^ 8 from rfl, ← Nat.pow_mul, Int.natCast_pow]; rfl
  rw [hp]
  unfold byteZ
  omega
end Go.Proofs.YtnhigfkhdmkoeaaGreatDoor

namespace Go.Proofs.YtnhigfkhdmkoeaaGreatDoor
open Go.RowKit
set_option linter.unusedVariables false

theorem made_one (x : Value) (n : Nat) (h : x.cells = #[x]) : (madeCells x.cells (n * 1)).toList = List.replicate n x := by
  rw [h, Nat.mul_one]
  unfold madeCells
  refine List.ext_getElem (by simp) fun i h1 h2 => ?_
  simp [Nat.mod_one]
section
variable {P : Program} (w : World)
/-- 'make([]T, n)' of integers, n a variable. -/
theorem wpList_makeZ {ops : Array Oper} {rest : List Oper} {o : Oper} {a : Act} {Q : Exit → Act → World → Prop} (hgd : o.guard = none) (l c : Operand) (t : TypeId) (hop : o.op = .makeSlice t l c)
    (base : Nat) (E : TypeId) (k : IntKind) (bytes : Nat) (ht : P.underlying t = some (.slice E)) (hi : (P.info? E).map (fun i => (i.zero, i.size, i.bytes)) = some (some (.int k 0), 1, bytes))
    (n : Nat) (hl : a.eval l = .int .i64 (n : Nat)) (hc : a.eval c = .int .i64 (n : Nat)) (hb : bytes * n ≤ 281474976710656) (hm : n ≤ maxLen) (hbase : base ≤ w.heap.size)
    (h : ∀ w', OwnZ base E k w' (.slice (some ⟨w.heap.size, 0, none⟩) n n) (List.replicate n 0) → Grew w w' → wpList P ops Q rest (a.put o.dst (.slice (some ⟨w.heap.size, 0, none⟩) n n)) w') : wpList P ops Q (o :: rest) a w := by
  obtain ⟨i, hi0, hz0, hz1, hz2⟩ := info_parts hi
  refine wpList_make_full w hgd l c t hop base E i (.int k 0) 1 ht hi0 hz0 hz1 .i64 .i64 _ _ n hl hc rfl rfl (by rw [hz2]; exact hb) hm hbase fun w' h1 h2 => h w' ?_ ?_
  · rw [made_one _ _ rfl] at h1
    unfold OwnZ
    rw [List.length_replicate, show cellsZ k (List.replicate n 0) = List.replicate n (.int k 0) by simp [cellsZ]]
    exact h1
  · exact Below.grown (Grew.refl w) h2 (Nat.le_refl _) (fun b hb => by cases hb)
theorem wpList_makeN {ops : Array Oper} {rest : List Oper} {o : Oper} {a : Act} {Q : Exit → Act → World → Prop} (hgd : o.guard = none) (l c : Operand) (t : TypeId) (hop : o.op = .makeSlice t l c)
    (base : Nat) (E : TypeId) (k : IntKind) (bytes : Nat) (ht : P.underlying t = some (.slice E)) (hi : (P.info? E).map (fun i => (i.zero, i.size, i.bytes)) = some (some (.int k 0), 1, bytes))
    (n : Nat) (hl : a.eval l = .int .i64 (n : Nat)) (hc : a.eval c = .int .i64 (n : Nat)) (hb : bytes * n ≤ 281474976710656) (hm : n ≤ maxLen) (hbase : base ≤ w.heap.size)
    (h : ∀ w', Own base E k w' (.slice (some ⟨w.heap.size, 0, none⟩) n n) (List.replicate n 0) → Grew w w' → wpList P ops Q rest (a.put o.dst (.slice (some ⟨w.heap.size, 0, none⟩) n n)) w') : wpList P ops Q (o :: rest) a w := by
  obtain ⟨i, hi0, hz0, hz1, hz2⟩ := info_parts hi
  refine wpList_make_full w hgd l c t hop base E i (.int k 0) 1 ht hi0 hz0 hz1 .i64 .i64 _ _ n hl hc rfl rfl (by rw [hz2]; exact hb) hm hbase fun w' h1 h2 => h w' ?_ ?_
  · rw [made_one _ _ rfl] at h1
    unfold Own
    rw [List.length_replicate, show cellsOf k (List.replicate n 0) = List.replicate n (.int k 0) by simp [cellsOf]]
    exact h1
  · exact Below.grown (Grew.refl w) h2 (Nat.le_refl _) (fun b hb => by cases hb)
end
/-- A number of the row is written over. -/
theorem OwnZ.set {w : World} {B : Nat} {E : TypeId} {k : IntKind} {g c n : Nat} {zs : List Int} (h : OwnZ B E k w (.slice (some ⟨g, 0, none⟩) n c) zs) (j : Nat) (x : Int) (hj : j < zs.length) :
    OwnZ B E k (w.setCell ⟨g, j, none⟩ (.int k x)) (.slice (some ⟨g, 0, none⟩) n c) (zs.set j x) := by
  unfold OwnZ at h ⊢
  rw [List.length_set]
  have hn : n = zs.length := by
    rcases h.2 with ⟨h', _⟩ | ⟨g', cap', cur, h', _⟩
    · simp at h'
    · simp only [Value.slice.injEq] at h'; exact h'.2.1
  subst hn
  have := (World.ownsRow.stored h j (.int k x)).1
  rwa [show (cellsZ k zs).set j (.int k x) = cellsZ k (zs.set j x) by simp [cellsZ, List.map_set]] at this
theorem OwnZ.cellAt {w : World} {B : Nat} {E : TypeId} {k : IntKind} {g c n : Nat} {zs : List Int} (h : OwnZ B E k w (.slice (some ⟨g, 0, none⟩) n c) zs) (hn : n = zs.length) (j : Nat) (hj : j < zs.length) : w.cell? ⟨g, j, none⟩ = some (.int k (zi zs j)) ∧ w.frozen? ⟨g, j, none⟩ = false := by
  subst hn
  unfold OwnZ at h
  refine ⟨?_, World.ownsRow.frozenAt h j⟩
  rw [World.ownsRow.cellAt h j (by omega)]
  simp [cellsZ, zi, hj]
theorem Own.cellAt {w : World} {B : Nat} {E : TypeId} {k : IntKind} {g c n : Nat} {ns : List Nat} (h : Own B E k w (.slice (some ⟨g, 0, none⟩) n c) ns) (hn : n = ns.length) (j : Nat) (hj : j < ns.length) : w.cell? ⟨g, j, none⟩ = some (.int k (wd ns j : Nat)) ∧ w.frozen? ⟨g, j, none⟩ = false := by
  subst hn
  unfold Own at h
  refine ⟨?_, World.ownsRow.frozenAt h j⟩
  rw [World.ownsRow.cellAt h j (by omega)]
  simp [cellsOf, wd, hj]
/-- The values of the first so many fields, noughts behind. -/
def valsPad (S : List Nat) (l : List Int) (K k : Nat) : List Int := valsTo S l k ++ List.replicate (K - k) 0
theorem valsPad_length (S : List Nat) (l : List Int) (K k : Nat) (h : k ≤ K) : (valsPad S l K k).length = K := by
  unfold valsPad
  rw [List.length_append, valsTo_length, List.length_replicate]
  omega
theorem valsPad_set (S : List Nat) (l : List Int) (K k : Nat) (h : k < K) : (valsPad S l K k).set k (getZ S (zi l (2 * k)).toNat (zi l (2 * k + 1))) = valsPad S l K (k + 1) := by
  unfold valsPad
  rw [List.set_append_right _ _ (by rw [valsTo_length]; exact Nat.le_refl _), valsTo_length, Nat.sub_self, show K - k = (K - (k + 1)) + 1 by omega, List.replicate_succ, List.set_cons_zero, valsTo, List.append_assoc]
  rfl
theorem valsPad_all (S : List Nat) (l : List Int) (K : Nat) : valsPad S l K K = valsTo S l K := by
  unfold valsPad
  rw [Nat.sub_self]
  simp
/-- A layout in a variable. -/
structure LayVar (w : World) (b : Nat) (x y : Value) : Prop where
  lt : b < w.heap.size
  c0 : w.cell? ⟨b, 0, none⟩ = some x
  c1 : w.cell? ⟨b, 1, none⟩ = some y
theorem LayVar.far {F : Nat → Prop} {w w' : World} {b : Nat} {x y : Value} (h : LayVar w b x y) (g : Far F w w') (hF : ¬ F b) : LayVar w' b x y :=
  ⟨Nat.lt_of_lt_of_le h.lt g.size, (g.cell (p := ⟨b, 0, none⟩) h.lt hF).trans h.c0, (g.cell (p := ⟨b, 1, none⟩) h.lt hF).trans h.c1⟩
theorem LayVar.grew {w w' : World} {b : Nat} {x y : Value} (h : LayVar w b x y) (g : Grew w w') : LayVar w' b x y := h.far (F := fun _ => False) (Far.of_grew g) (fun q => q)
theorem lay_new (w : World) (x y : Value) (E : TypeId) : ∃ W, w.alloc (.cells #[x, y] E) = W ∧ Grew w W ∧ LayVar W w.heap.size x y :=
  ⟨_, rfl, (Grew.refl _).alloc _, by simp, by simp [go_sem], by simp [go_sem]⟩
theorem lay_pos (c : Nat) : 2 * ((ubxLay c).2.length / 2) = (ubxLay c).2.length := by have := (ubx_layOk c).even; omega
-- [DEC
theorem neg_abs (m : Nat) (neg : Bool) : (if neg then -(m : Int) else (m : Int)).natAbs = m := by cases neg <;> simp
theorem neg_lt (m : Nat) (neg : Bool) (h : 0 < m) : decide ((if neg then -(m : Int) else (m : Int)) < 0) = neg := by cases neg <;> simp <;> omega
set_option maxRecDepth 100000 in
set_option maxHeartbeats 4000000 in
theorem ubp_Decode (a b : Nat) (v : Value) (S : List Nat) (w : World) (ha : a < 256) (hb : b < 256) (hr : Row .u8 w v S) (hB : Bytes S) (hl : S.length ≤ 100000) :
    Calls Tryz.prog 19 #[.int .u8 (a : Nat), .int .u8 (b : Nat), v] w (DecT a b (ubxDec (a * 256 + b) S) w) := by
  have HIT := fun w v h => kinds_hit w v h a b ha hb
  have MISS := fun w v h => kinds_miss w v h a b
  have HK := fun w => Lib.hid (ubp_kinds w)
  have hev := (ubx_layOk (a * 256 + b)).even
  have HF := lay_field (a * 256 + b)
  unfold LayAt at HIT
  have hdec : ubxDec (a * 256 + b) S = if (ubxLay (a * 256 + b)).1 = 0 then ([], 7) else if S.length ≠ (ubxLay (a * 256 + b)).1 then ([], 5) else (valsTo S (ubxLay (a * 256 + b)).2 ((ubxLay (a * 256 + b)).2.length / 2), 0) := rfl
  rw [hdec]
  clear hdec
  generalize (ubxLay (a * 256 + b)).1 = n at *
  generalize (ubxLay (a * 256 + b)).2 = l at *
  have HR := Lib.hid hr
  obtain ⟨SA, sc, rfl, hsc⟩ := hr.form
  clear hr
  unfold keyV at HIT MISS
  by_cases hn0 : n = 0
  · subst hn0
    rw [if_pos rfl]
    have MISS' := fun w v h => Lib.hid (MISS w v h rfl)
    clear MISS HIT
    go_enter Tryz.func19, Tryz.ntmps19
    go_upto_region 1 with fail
    obtain ⟨W, hW, g0, T0⟩ := three_new w (.int .u8 0) (.int .u8 0) (.slice none 0 0) 36
    rw [hW]
    clear hW
    go_upto_region 2 with (go_at_call 52; refine (HK _).out.mono ?_; rintro e w1 ⟨kv, rfl, hk, g1⟩; have hrun := (MISS' w1 kv hk).out)
    obtain ⟨V, hV, gV, TV⟩ := lay_new w1 (.int .i64 0) (.slice none 0 0) 91
    rw [hV]
    clear hV
    obtain ⟨_, r0, r1, r2, q0, q1, q2⟩ := T0.grew (g1.trans gV)
    go_wp2_with fail
    refine bodyPost_ret (by simp [results, Tryz.results19, go_sem, r0, r1, r2]; try rfl) rfl ?_
    exact decT_no (by decide) (three_put (g0.trans (g1.trans gV)) (Nat.le_refl _) _ _ _)
  · rw [if_neg hn0]
    have HIT' := fun w v h => Lib.hid (HIT w v h hn0)
    clear MISS HIT
    go_enter Tryz.func19, Tryz.ntmps19
    go_upto_region 1 with fail
    obtain ⟨W, hW, g0, T0⟩ := three_new w (.int .u8 0) (.int .u8 0) (.slice none 0 0) 36
    rw [hW]
    clear hW
    go_upto_region 2 with (go_at_call 52; refine (HK _).out.mono ?_; rintro e w1 ⟨kv, rfl, hk, g1⟩; obtain ⟨lv, hrun, LA, lc, rfl, hlay⟩ := (HIT' w1 kv hk).out)
    obtain ⟨V, hV, gV, TV⟩ := lay_new w1 (.int .i64 (n : Nat)) (.slice LA (l.length / 2) lc) 91
    rw [hV]
    clear hV hrun
    have HLAY := Lib.hid hlay
    clear hlay
    have T1 := Lib.hid (T0.grew (g1.trans gV))
    obtain ⟨_, r0, r1, r2, q0, q1, q2⟩ := T0.grew (g1.trans gV)
    have TV1 := Lib.hid TV
    obtain ⟨_, v0, v1⟩ := TV
    by_cases hne : S.length ≠ n
    · have n1 : ¬ (S.length : Int) = n := by omega
      rw [if_pos hne]
      go_wp2_with fail
      refine bodyPost_ret (by simp [results, Tryz.results19, go_sem, r0, r1, r2]; try rfl) rfl ?_
      exact decT_no (by decide) (three_put (g0.trans (g1.trans gV)) (Nat.le_refl _) _ _ _)
    · obtain rfl : n = S.length := by omega
      rw [if_neg hne]
      go_upto_region 7 with (refine wpList_makeZ _ rfl _ _ 34 rfl V.heap.size 2 .i64 8 Tryz.underlying34 infoI64 (l.length / 2) rfl rfl (by omega) (by unfold maxLen; omega) (Nat.le_refl _) ?_; intro V2 hO0 gV2)
      have hpos : 2 * (l.length / 2) = l.length := by omega
      generalize hKe : l.length / 2 = K at *
      clear hKe
      obtain ⟨_, v0, v1⟩ := TV1.out.grew gV2
      have hvl : V.heap.size < V2.heap.size := (hO0.lt _ rfl).2
      have hw1 : w1.heap.size < V.heap.size := TV1.out.lt
      have hw0 : w.heap.size < w1.heap.size := Nat.lt_of_lt_of_le T0.lt g1.size
      have GA := Lib.hid (g0.trans (g1.trans (gV.trans gV2)))
      have GB := Lib.hid (gV.trans gV2)
      have HFI := Lib.hid HF
      have HBy := Lib.hid hB
      clear HK HIT' g0 g1 gV T0 r0 r1 r2 q0 q1 q2 HF hB
      go_wp2_with fail
      go_loopg [37] K (fun kx s wr => ∃ k : Nat, k + kx = K ∧ s = .int .i64 k ∧ Hid (OwnZ V.heap.size 2 .i64 wr (.slice (some ⟨V.heap.size, 0, none⟩) K K) (valsPad S l K k)) ∧ Hid (Far (fun x => x = V.heap.size) V2 wr))
      case atStart => exact ⟨0, by omega, rfl, Lib.hid (by unfold valsPad valsTo; exact hO0), Lib.hid (Far.refl _ _)⟩
      case round =>
        obtain ⟨k, hk, rfl, hO, hFa⟩ := hrel
        by_cases hlt : k < K
        · obtain ⟨p, m, neg, e1, e2, hm, hpm⟩ := HFI.out k (by omega)
          obtain ⟨fb, rfl, hfb, c0, c1, c2⟩ := HLAY.out k (by omega)
          rw [e1] at c0
          rw [e2, neg_abs] at c1
          rw [e2, neg_lt m neg hm.1] at c2
          have hs := Lib.hid (valsPad_set S l K k hlt)
          rw [e1, e2, Int.toNat_natCast] at hs
          have HG := fun w' (g : Grew wr w') => Lib.hid (ubp_read (.slice SA S.length sc) S p m neg w' (((HR.out.grew GA.out).far hFa.out (fun x hx h => by have := HR.out.lt (by omega) x hx; omega)).grew g) HBy.out hpm hm hl)
          have y0 := (hFa.out.cell (p := ⟨fb, k * 3, none⟩) (Nat.lt_trans hfb (by omega)) (by show ¬ fb = _; omega)).trans ((GB.out.cell (p := ⟨fb, k * 3, none⟩) hfb).trans c0)
          have y1 := (hFa.out.cell (p := ⟨fb, k * 3 + 1, none⟩) (Nat.lt_trans hfb (by omega)) (by show ¬ fb = _; omega)).trans ((GB.out.cell (p := ⟨fb, k * 3 + 1, none⟩) hfb).trans c1)
          have y2 := (hFa.out.cell (p := ⟨fb, k * 3 + 2, none⟩) (Nat.lt_trans hfb (by omega)) (by show ¬ fb = _; omega)).trans ((GB.out.cell (p := ⟨fb, k * 3 + 2, none⟩) hfb).trans c2)
          clear c0 c1 c2
          generalize getZ S p (if neg then -(m : Int) else (m : Int)) = y at *
          have hvp := Lib.hid (valsPad_length S l K k (by omega))
          generalize valsPad S l K k = zs at *
          go_upto_region 10 with fail
          obtain ⟨W3, hW3, g3, T3⟩ := three_new wr (.int .i64 (p : Nat)) (.int .i64 (m : Nat)) (.bool neg) 98
          rw [hW3]
          clear hW3 y0 y1 y2
          obtain ⟨_, x0, x1, x2, _, _, _⟩ := T3
          go_upto_region 11 with (go_at_call 53; refine (HG _ g3).out.mono ?_; rintro e w5 ⟨rfl, g5⟩; have O5 := hO.out.grew (g3.trans g5); obtain ⟨hx, hfr⟩ := O5.cellAt hvp.out.symm k (by rw [hvp.out]; exact hlt))
          have O6 := O5.set k y (by rw [hvp.out]; exact hlt)
          have F6 := ((hFa.out.trans (Far.of_grew (F := fun x => x = V.heap.size) (g3.trans g5)))).setCell (p := ⟨V.heap.size, k, none⟩) rfl (.int .i64 y)
          rw [hs.out] at O6
          generalize w5.setCell ⟨V.heap.size, k, none⟩ (.int .i64 y) = V6 at *
          clear O5 hx hfr x0 x1 x2 HG
          go_wp2_with fail
          go_roundg (K - (k + 1))
          case measure => omega
          case rel => exact ⟨k + 1, by omega, by go_num, Lib.hid O6, Lib.hid F6⟩
        · obtain rfl : k = K := by omega
          have hva := Lib.hid (valsPad_all S l k)
          rw [hva.out] at hO
          obtain ⟨_, r0, r1, r2, q0, q1, q2⟩ := (T1.out.grew gV2).far hFa.out (by show ¬ w.heap.size = _; omega)
          have O6 := Lib.hid (hO.out.far ((((Far.refl (fun x => x = w.heap.size) wr).setCell (p := ⟨w.heap.size, 0, none⟩) rfl (.int .u8 (a : Nat))).setCell (p := ⟨w.heap.size, 1, none⟩) rfl (.int .u8 (b : Nat))).setCell (p := ⟨w.heap.size, 2, none⟩) rfl (.slice (some ⟨V.heap.size, 0, none⟩) k k)) (fun x hx e => by have := hO.out.lt x hx; have : x = w.heap.size := e; omega))
          have OL := Lib.hid hO.out.lt
          have GR := Lib.hid (hFa.out.grew GA.out (fun x h => by have : x = V.heap.size := h; omega))
          clear hO hFa HFI HLAY
          go_wp2_with fail
          refine bodyPost_ret (by simp [results, Tryz.results19, go_sem, r0, r1, r2]; try rfl) rfl ?_
          exact ⟨_, rfl, O6.out.row, fun _ x hx => by have := OL.out x hx; omega, three_put GR.out (Nat.le_refl _) _ _ _⟩
-- DEC]
end Go.Proofs.YtnhigfkhdmkoeaaGreatDoor

namespace Go.Proofs.YtnhigfkhdmkoeaaGreatDoor
open Go.RowKit
set_option linter.unusedVariables false

/-- An entry of the map: a kind's. -/
def SEntry (E : TypeId) (w : World) (k : KRow) (e : MapEntry) : Prop :=
  e.key = .int .u8 (k.a : Nat) ∧ ∃ b n, e.val = .agg #[.int .i64 (k.len : Nat), .slice (some ⟨b, 0, none⟩) n n] ∧ n = k.cs.length / 3 ∧ w.heap[b]? = some (.cells k.cs.toArray E)
def SMap (E : TypeId) (W : World) (K : List KRow) (L : Nat → Bool) (w : World) (m : Nat) : Prop :=
  W.heap.size ≤ m ∧ ∃ es clk, w.heap[m]? = some (.map es clk) ∧ (∀ e ∈ es.toList, ∃ k ∈ K, L k.at_ = true ∧ SEntry E w k e) ∧ (∀ k ∈ K, L k.at_ = true → ∃ e ∈ es.toList, SEntry E w k e)
def SLeft (E : TypeId) (W : World) (K : List KRow) (L : Nat → Bool) (s : KShape) (w : World) (v : Value) : Prop :=
  match s with
  | .inl x => v = x
  | .inr (.inl cs) => ∃ b n, v = .slice (some ⟨b, 0, none⟩) n n ∧ n = cs.length / 3 ∧ w.heap[b]? = some (.cells cs.toArray E)
  | .inr (.inr (.inl p)) => ∃ b n, v = .agg #[.int .i64 (p.1 : Nat), .slice (some ⟨b, 0, none⟩) n n] ∧ n = p.2.length / 3 ∧ w.heap[b]? = some (.cells p.2.toArray E)
  | .inr (.inr (.inr _)) => ∃ m, v = .map (some m) ∧ SMap E W K L w m
theorem SEntry.kept {E : TypeId} {w w' : World} {k : KRow} {e : MapEntry} (h : SEntry E w k e) (g : KKept w w') : SEntry E w' k e := by
  obtain ⟨h1, b, n, h2, h3, h4⟩ := h
  exact ⟨h1, b, n, h2, h3, g _ _ _ _ h4⟩
theorem SMap.also {E : TypeId} {W : World} {K : List KRow} {L : Nat → Bool} {w w' : World} {m i : Nat} (h : SMap E W K L w m) (g : Grew w w') (hi : ∀ k ∈ K, k.at_ ≠ i) : SMap E W K (also L i) w' m := by
  obtain ⟨h0, es, clk, h1, h2, h3⟩ := h
  refine ⟨h0, es, clk, (Below.block g m (Array.getElem?_eq_some_iff.1 h1).1).trans h1, fun e he => ?_, fun k hk hl => ?_⟩
  · obtain ⟨k, hk, hl, he⟩ := h2 e he
    exact ⟨k, hk, by rw [also_ne (hi k hk)]; exact hl, he.kept (.of_grew g)⟩
  · rw [also_ne (hi k hk)] at hl
    obtain ⟨e, he, hx⟩ := h3 k hk hl
    exact ⟨e, he, hx.kept (.of_grew g)⟩
theorem SLeft.also {E : TypeId} {W : World} {K : List KRow} {L : Nat → Bool} {s : KShape} {w w' : World} {v : Value} {i : Nat} (h : SLeft E W K L s w v) (g : Grew w w') (hi : ∀ k ∈ K, k.at_ ≠ i) : SLeft E W K (also L i) s w' v := by
  rcases s with x | cs | p | u
  · exact h
  · obtain ⟨b, n, h1, h2, h3⟩ := h
    exact ⟨b, n, h1, h2, KKept.of_grew g _ _ _ _ h3⟩
  · obtain ⟨b, n, h1, h2, h3⟩ := h
    exact ⟨b, n, h1, h2, KKept.of_grew g _ _ _ _ h3⟩
  · obtain ⟨m, h1, h2⟩ := h
    exact ⟨m, h1, h2.also g hi⟩

section
variable {P : Program} {Q : Exit → Act → World → Prop} {o : Oper} {a : Act} {w w1 W : World} {E : TypeId} {K : List KRow} {L : Nat → Bool} {ops : Array Oper} {sh : Nat → KShape} {i : Nat}
theorem sm_of (hd : ∀ j d, L j = true → writes ops j d = true → SLeft E W K L (sh j) w (a.tmps[d]?.getD undef)) (g : Grew W w) (hi : K.all (fun k => k.at_ != i) = true)
    (h : o.wp P a w (fun a' w'' => ∃ v, a' = a.put o.dst v ∧ SLeft E W K (also L i) (sh i) w'' v ∧ Grew w w'') Q) :
    o.wp P a w (fun a' w' => ∃ v, a' = a.put o.dst v ∧ (∀ d, o.dst = some d → SLeft E W K (also L i) (sh i) w' v) ∧ (∀ j d, L j = true → writes ops j d = true → SLeft E W K (also L i) (sh j) w' (a.tmps[d]?.getD undef)) ∧ Grew W w') Q :=
  Oper.wp_mono (fun a' w' ⟨v, h1, h2, h3⟩ => ⟨v, h1, fun _ _ => h2, fun j d hl hw => (hd j d hl hw).also h3 (fun k hk => by have := List.all_eq_true.1 hi k hk; simpa using this), g.trans h3⟩) h
end
theorem byte_under : Tryz.prog.underlying 5 = some (.int .u8) := by kernel_rfl
theorem smap_under : Tryz.prog.underlying 104 = some (.map 5 102) := by kernel_rfl
theorem byte_key (a : Nat) : MapKept.IsKey (.int .u8) (.int .u8 (a : Nat)) := by simp [MapKept.IsKey]
theorem skey_ne {a b : Nat} (h : a ≠ b) : ¬ (Value.int .u8 (a : Nat)) = .int .u8 (b : Nat) := by
  intro e
  simp at e
  omega
/-- An entry is laid whose key is none of the map's. -/
theorem srun_insert (w : World) (m a : Nat) (es : Array MapEntry) (clk : Nat) (v : Value) (hm : w.heap[m]? = some (.map es clk)) (h : ∀ e ∈ es.toList, ∃ c : Nat, e.key = .int .u8 (c : Nat) ∧ a ≠ c) :
    (Instr.mapUpdate 104 (.map (some m)) (.int .u8 (a : Nat)) v).run Tryz.prog w = .ok () (Go.ChangeMaps.setBlock w m (.map (es.push { key := .int .u8 (a : Nat), val := v, born := clk }) (clk + 1))) := by
  have hks : ∀ x ∈ es.toList, MapKept.IsKey (.int .u8) x.key := fun x hx => by obtain ⟨c, e, _⟩ := h x hx; rw [e]; exact byte_key c
  rcases MapKept.findNow_spec (byte_key a) es.toList 0 hks with ⟨h1, _⟩ | ⟨j, e, _, h2, h3⟩
  · unfold Instr.mapUpdate
    simp only [Sem.run_bind, run_underlying smap_under, Result.andThen_ok, MapKept.run_getObj_map hm, MapKept.run_checkKey byte_under (byte_key a), MapKept.run_findKey byte_under h1, MapKept.run_setObj_map _ hm]
    rfl
  · exfalso
    obtain ⟨c, e1, e2⟩ := h e (List.mem_of_getElem? h2)
    exact skey_ne e2 (h3.symm.trans e1)
/-- A key that the map has; one that it has not. -/
theorem srun_hit (w : World) (m a : Nat) (es : Array MapEntry) (clk : Nat) (hm : w.heap[m]? = some (.map es clk)) (h : ∀ e ∈ es.toList, ∃ c : Nat, e.key = .int .u8 (c : Nat)) (hx : ∃ e ∈ es.toList, e.key = .int .u8 (a : Nat)) :
    ∃ e ∈ es.toList, e.key = .int .u8 (a : Nat) ∧ (Instr.lookup 104 (.map (some m)) (.int .u8 (a : Nat)) true).run Tryz.prog w = .ok (.tuple #[e.val, .bool true]) w := by
  have hks : ∀ x ∈ es.toList, MapKept.IsKey (.int .u8) x.key := fun x hx => by obtain ⟨c, e⟩ := h x hx; rw [e]; exact byte_key c
  rcases MapKept.findNow_spec (byte_key a) es.toList 0 hks with ⟨_, h1⟩ | ⟨j, e, h1, h2, h3⟩
  · obtain ⟨e, he, hk⟩ := hx
    exact absurd hk (h1 e he)
  · refine ⟨e, List.mem_of_getElem? h2, h3, ?_⟩
    unfold Instr.lookup
    simp only [Sem.run_bind, run_underlying smap_under, Result.andThen_ok, MapKept.run_getObj_map hm, Sem.run_pure, MapKept.run_checkKey byte_under (byte_key a), MapKept.run_findKey byte_under h1]
    rfl
theorem srun_miss (w : World) (m a : Nat) (es : Array MapEntry) (clk : Nat) (hm : w.heap[m]? = some (.map es clk)) (h : ∀ e ∈ es.toList, ∃ c : Nat, e.key = .int .u8 (c : Nat) ∧ a ≠ c) :
    (Instr.lookup 104 (.map (some m)) (.int .u8 (a : Nat)) true).run Tryz.prog w = .ok (.tuple #[.agg #[.int .i64 0, .slice none 0 0], .bool false]) w := by
  have hks : ∀ x ∈ es.toList, MapKept.IsKey (.int .u8) x.key := fun x hx => by obtain ⟨c, e, _⟩ := h x hx; rw [e]; exact byte_key c
  have hz : (zeroValue 102).run Tryz.prog w = .ok (.agg #[.int .i64 0, .slice none 0 0]) w := by go_simp
  rcases MapKept.findNow_spec (byte_key a) es.toList 0 hks with ⟨h1, _⟩ | ⟨j, e, _, h2, h3⟩
  · unfold Instr.lookup
    simp only [Sem.run_bind, run_underlying smap_under, Result.andThen_ok, MapKept.run_getObj_map hm, Sem.run_pure, MapKept.run_checkKey byte_under (byte_key a), MapKept.run_findKey byte_under h1, hz]
    rfl
  · exfalso
    obtain ⟨c, e1, e2⟩ := h e (List.mem_of_getElem? h2)
    exact skey_ne e2 (h3.symm.trans e1)
/-- Kinds of places of their own, of keys of their own. -/
structure SGood (K : List KRow) : Prop where
  at_ : K.Pairwise fun x y => x.at_ ≠ y.at_
  key : K.Pairwise fun x y => x.a ≠ y.a
theorem spair_inj {α : Type} {R : α → α → Prop} : ∀ {K : List α}, K.Pairwise R → ∀ {x y : α}, x ∈ K → y ∈ K → x = y ∨ R x y ∨ R y x
  | [], _, _, _, h, _ => by simp at h
  | z :: K, h, x, y, hx, hy => by
    obtain ⟨h1, h2⟩ := List.pairwise_cons.1 h
    rcases List.mem_cons.1 hx with ex | hx'
    · rcases List.mem_cons.1 hy with ey | hy'
      · exact .inl (ex.trans ey.symm)
      · exact .inr (.inl (ex ▸ h1 y hy'))
    · rcases List.mem_cons.1 hy with ey | hy'
      · exact .inr (.inr (ey ▸ h1 x hx'))
      · exact spair_inj h2 hx' hy'
theorem SGood.one {K : List KRow} (h : SGood K) {x y : KRow} (hx : x ∈ K) (hy : y ∈ K) (e : x.at_ = y.at_) : x = y := by
  rcases spair_inj h.at_ hx hy with q | q | q
  · exact q
  · exact absurd e q
  · exact absurd e.symm q
theorem SGood.unlike {K : List KRow} (h : SGood K) {x y : KRow} (hx : x ∈ K) (hy : y ∈ K) (e : x ≠ y) : x.a ≠ y.a := by
  rcases spair_inj h.key hx hy with q | q | q
  · exact absurd q e
  · exact q
  · exact q.symm
theorem sm_insert {Q : Exit → Act → World → Prop} {o : Oper} {a : Act} {w W : World} {E : TypeId} {K : List KRow} {L : Nat → Bool} {ops : Array Oper} {sh : Nat → KShape} {i : Nat} {tm tv : Tmp} {k : KRow}
    (hK : SGood K) (hk : k ∈ K) (hi : k.at_ = i) (hdst : o.dst = none) (hop : o.op = .insert 104 (.tmp tm) (.const (.int .u8 (k.a : Nat))) (.tmp tv)) (hL : L i = false)
    (hd : ∀ j d, L j = true → writes ops j d = true → SLeft E W K L (sh j) w (a.tmps[d]?.getD undef)) (hc : ∀ j k, L j = true → waitsAt ops j k = true → L k = true) (g : Grew W w)
    (hmaps : ((List.range ops.size).all fun j => (match sh j with | .inr (.inr (.inr _)) => j == 0 || waitsAt ops j i | _ => true)) = true) (h0 : sh 0 = .inr (.inr (.inr ()))) (hw0 : writes ops 0 tm = true)
    (hm : SLeft E W K L (.inr (.inr (.inr ()))) w (a.tmps[tm]?.getD undef)) (ev : SLeft E W K L (.inr (.inr (.inl (k.len, k.cs)))) w (a.tmps[tv]?.getD undef)) :
    o.wp Tryz.prog a w (fun a' w' => ∃ v, a' = a.put o.dst v ∧ (∀ d, o.dst = some d → SLeft E W K (also L i) (sh i) w' v) ∧ (∀ j d, L j = true → writes ops j d = true → SLeft E W K (also L i) (sh j) w' (a.tmps[d]?.getD undef)) ∧ Grew W w') Q := by
  obtain ⟨m, em, hWm, es, clk, hb, h1, h2⟩ := hm
  obtain ⟨b, n, evv, hn, hcs⟩ := ev
  have hkeys : ∀ e ∈ es.toList, ∃ c : Nat, e.key = .int .u8 (c : Nat) ∧ k.a ≠ c := fun e he => by
    obtain ⟨k', hk', hl, hx, _⟩ := h1 e he
    refine ⟨k'.a, hx, hK.unlike hk hk' (fun q => ?_)⟩
    subst q
    rw [hi, hL] at hl
    cases hl
  have hrun := srun_insert w m k.a es clk (a.tmps[tv]?.getD undef) hb hkeys
  obtain ⟨w1, hw1⟩ : ∃ w1, Go.ChangeMaps.setBlock w m (.map (es.push { key := .int .u8 (k.a : Nat), val := a.tmps[tv]?.getD undef, born := clk }) (clk + 1)) = w1 := ⟨_, rfl⟩
  have hnew : w1.heap[m]? = some (.map (es.push { key := .int .u8 (k.a : Nat), val := a.tmps[tv]?.getD undef, born := clk }) (clk + 1)) := by rw [← hw1]; exact Go.ChangeMaps.heap_setBlock_same hb _
  have hgb : w.grownBy w1 (some m) := by
    rw [← hw1]
    exact ⟨rfl, rfl, rfl, by simp [Go.ChangeMaps.setBlock], fun i _ hi => Go.ChangeMaps.heap_setBlock_other hb _ (fun e => hi (by rw [e]))⟩
  have hkept : KKept w w1 := fun b' cs E' fr h => by
    have hne : b' ≠ m := fun e => by subst e; rw [hb] at h; cases h
    exact (hgb.block b' (Array.getElem?_eq_some_iff.1 h).1 (fun e => hne (by simpa using e))).trans h
  have hG : Grew W w1 := Below.grown g hgb g.size (fun b' hb' => by simp at hb'; subst hb'; exact hWm)
  rw [hw1] at hrun
  have hmap : SMap E W K (also L i) w1 m := by
    refine ⟨hWm, _, _, hnew, fun e he => ?_, fun k' hk' hl => ?_⟩
    · simp only [Array.toList_push, List.mem_append, List.mem_singleton] at he
      rcases he with he | rfl
      · obtain ⟨k', hk', hl, hx⟩ := h1 e he
        exact ⟨k', hk', by unfold also; rw [hl, Bool.or_true], hx.kept hkept⟩
      · exact ⟨k, hk, by unfold also; rw [hi]; simp, rfl, b, n, evv, hn, hkept _ _ _ _ hcs⟩
    · by_cases e : k'.at_ = i
      · obtain rfl := hK.one hk' hk (e.trans hi.symm)
        exact ⟨_, by simp only [Array.toList_push, List.mem_append, List.mem_singleton]; exact .inr rfl, rfl, b, n, evv, hn, hkept _ _ _ _ hcs⟩
      · rw [also_ne e] at hl
        obtain ⟨e', he', hx⟩ := h2 k' hk' hl
        exact ⟨e', by simp only [Array.toList_push, List.mem_append]; exact .inl he', hx.kept hkept⟩
  have hrest : ∀ j d, L j = true → writes ops j d = true → SLeft E W K (also L i) (sh j) w1 (a.tmps[d]?.getD undef) := fun j d hl hw => by
    have hx := hd j d hl hw
    have hjs : j < ops.size := by
      unfold writes at hw
      split at hw
      · cases hw
      · exact (Array.getElem?_eq_some_iff.1 ‹_›).1
    have hmj := List.all_eq_true.1 hmaps j (List.mem_range.2 hjs)
    cases hs : sh j with
    | inl x => rw [hs] at hx; exact hx
    | inr s =>
      cases s with
      | inl cs => rw [hs] at hx; obtain ⟨b, n, q1, q2, q3⟩ := hx; exact ⟨b, n, q1, q2, hkept _ _ _ _ q3⟩
      | inr s =>
        cases s with
        | inl p => rw [hs] at hx; obtain ⟨b, n, q1, q2, q3⟩ := hx; exact ⟨b, n, q1, q2, hkept _ _ _ _ q3⟩
        | inr u =>
          rw [hs] at hmj
          simp only [Bool.or_eq_true, beq_iff_eq] at hmj
          rcases hmj with rfl | hmj
          · have : d = tm := by
              unfold writes at hw hw0
              cases hq : ops[0]? with
              | none => rw [hq] at hw; cases hw
              | some p =>
                rw [hq] at hw hw0
                simp only [beq_iff_eq] at hw hw0
                exact Option.some.inj (hw.symm.trans hw0)
            subst this
            exact ⟨m, em, hmap⟩
          · have := hc j i hl hmj
            rw [hL] at this
            cases this
  have hex : (execOp a.eval o).run Tryz.prog w = .ok .skip w1 := by
    have e1 : a.eval (.tmp tm) = .map (some m) := by simpa [go_sem] using em
    have e2 : a.eval (.const (.int .u8 (k.a : Nat))) = .int .u8 (k.a : Nat) := rfl
    have e3 : a.eval (.tmp tv) = a.tmps[tv]?.getD undef := by simp [go_sem]
    simp [execOp, hop, e1, e2, e3, hrun, Result.andThen]
  unfold Oper.wp
  rw [hex]
  refine ⟨undef, ?_, fun d hd' => (by rw [hdst] at hd'; cases hd'), hrest, hG⟩
  rw [hdst]
  try rfl
end Go.Proofs.YtnhigfkhdmkoeaaGreatDoor

namespace Go.Proofs.YtnhigfkhdmkoeaaGreatDoor
open Go.RowKit
set_option linter.unusedVariables false

section
variable {P : Program} {ops : Array Oper} {Q : Exit → Act → World → Prop} {Spec : (Nat → Bool) → Nat → World → Value → Prop} {G : (Nat → Bool) → World → Prop} {a0 : Act}
theorem locm_next {n : Nat} (hB : locmB n ops = true) (hn : a0.tmps.size = n) {listed : Array Bool} {a : Act} {w w' : World} {i : Nat} {o : Oper} {v : Value} (h : LocmInv ops Spec G a0 listed a w) (ho : ops[i]? = some o)
    (hwt : ∀ j, waits o j = true → got listed j = true) (hS : ∀ d, o.dst = some d → Spec (also (got listed) i) i w' v)
    (hO : ∀ j d, got listed j = true → writes ops j d = true → Spec (also (got listed) i) j w' (a.tmps.getD d undef)) (hG : G (also (got listed) i) w') :
    LocmInv ops Spec G a0 (listed.setIfInBounds i true) (a.put o.dst v) w' := by
  have hlt : i < ops.size := (Array.getElem?_eq_some_iff.1 ho).1
  have L := locm_of hB i o ho
  have hls : i < listed.size := by rw [h.size]; exact hlt
  refine ⟨by simpa using h.size, ?_, ?_, ?_, ?_, ?_, by rw [got_set hls]; exact hG⟩
  · cases hd : o.dst <;> exact h.defers
  · cases hd : o.dst with
    | none => exact h.slots
    | some d => simpa [Act.put] using h.slots
  · intro k hk
    cases hd : o.dst with
    | none => exact h.other k hk
    | some d =>
      show (a.tmps.setIfInBounds d v).getD k undef = _
      rw [tmp_set _ _ _ _ (by rw [h.slots, hn]; exact (L.dst d hd).1), if_neg (fun e => freeA_no hk ho (by rw [hd, e]))]
      exact h.other k hk
  · intro j d' hl hd'
    rw [got_set hls] at hl ⊢
    cases hd : o.dst with
    | none =>
      have hj : j ≠ i := fun q => by
        subst q
        unfold writes at hd'
        rw [ho] at hd'
        simp [hd] at hd'
      have hl' : got listed j = true := by simpa [also, hj] using hl
      exact hO j d' hl' hd'
    | some d =>
      show Spec _ j w' ((a.tmps.setIfInBounds d v).getD d' undef)
      rw [tmp_set _ _ _ _ (by rw [h.slots, hn]; exact (L.dst d hd).1)]
      have hd2 := hd'
      unfold writes at hd2
      cases hq : ops[j]? with
      | none => rw [hq] at hd2; cases hd2
      | some p =>
        rw [hq] at hd2
        simp only [beq_iff_eq] at hd2
        by_cases e : d' = d
        · subst e
          rw [if_pos rfl]
          obtain rfl := (L.dst d' hd).2 j p hq hd2
          exact hS d' hd
        · rw [if_neg e]
          have hj : j ≠ i := fun q => by
            subst q
            rw [ho] at hq
            obtain rfl := Option.some.inj hq
            rw [hd] at hd2
            exact e (Option.some.inj hd2).symm
          have hl' : got listed j = true := by simpa [also, hj] using hl
          exact hO j d' hl' hd'
  · intro j k hl hw
    rw [got_set hls] at hl ⊢
    by_cases e : j = i
    · subst e
      have : waits o k = true := by unfold waitsAt at hw; rw [ho] at hw; exact hw
      unfold also
      rw [hwt k this, Bool.or_true]
    · have hl' : got listed j = true := by simpa [also, e] using hl
      unfold also
      rw [h.closed j k hl' hw, Bool.or_true]
theorem locm_list {n : Nat} (hB : locmB n ops = true) (hn : a0.tmps.size = n)
    (step : ∀ (i : Nat) (o : Oper), ops[i]? = some o → LocStepG P ops Spec G a0 Q i o)
    (fin : ∀ (L : Nat → Bool) (a : Act) (w' : World), (∀ k, k < ops.size → L k = true) → a.defers = a0.defers → a.tmps.size = n → (∀ k, freeSlotA ops k = true → a.tmps.getD k undef = a0.tmps.getD k undef) →
      (∀ j d, writes ops j d = true → Spec L j w' (a.tmps.getD d undef)) → G L w' → Q .normal a w') :
    ∀ (m k : Nat) (listed : Array Bool) (a : Act) (w : World), k + m = ops.size → (∀ j, got listed j = decide (j < k)) → LocmInv ops Spec G a0 listed a w → wpOps P ops Q (List.range' k m) a w := by
  intro m
  induction m with
  | zero =>
    intro k listed a w hk hg h
    have hl : ∀ j, j < ops.size → got listed j = true := fun j hj => by rw [hg]; exact decide_eq_true (by omega)
    exact fin (got listed) a w hl h.defers (h.slots.trans hn) h.other (fun j d hd => h.done j d (hl j (by unfold writes at hd; split at hd; cases hd; exact (Array.getElem?_eq_some_iff.1 ‹_›).1)) hd) h.grew
  | succ m ih =>
    intro k listed a w hk hg h
    have hlt : k < ops.size := by omega
    have ho := Array.getElem?_eq_getElem hlt
    generalize ops[k] = o at ho
    have L := locm_of hB k o ho
    have hwt : ∀ j, waits o j = true → got listed j = true := fun j hj => by
      unfold waits at hj
      obtain ⟨e, he, hb⟩ := Array.any_eq_true'.1 hj
      simp only [Bool.and_eq_true, beq_iff_eq] at hb
      obtain ⟨rfl, hb⟩ := hb
      rw [hg]
      exact decide_eq_true (L.after e he hb)
    have hni : got listed k = false := by rw [hg]; simp
    have st := step k o ho
    unfold LocStepG at st
    simp only [← Array.getD_eq_getD_getElem?] at st
    rw [List.range'_succ]
    unfold wpOps
    simp only [ho]
    rw [if_pos (by simp [Region.wanted, L.guard])]
    refine .inl (Oper.wp_mono ?_ (st (got listed) a w hni h.other hwt h.closed h.done h.grew))
    rintro a' w' ⟨v, rfl, hS, hO, hG⟩
    have hls : k < listed.size := by rw [h.size]; exact hlt
    refine ih (k + 1) _ _ _ (by omega) (fun j => ?_) (locm_next hB hn h ho hwt hS hO hG)
    rw [got_set hls]
    unfold also
    rw [hg]
    by_cases e : j = k
    · subst e; simp
    · by_cases e2 : j < k
      · have e3 : j < k + 1 := by omega
        simp [e2, e3]
      · have e3 : ¬ j < k + 1 := by omega
        simp [e, e2, e3]
/-- The region's law, operation by operation, where the region has its own order. -/
theorem wp_region_fillO {id n : Nat} {l : List Oper} {w : World} (hl : ops = l.toArray) (hB : locmB n ops = true) (hn : a0.tmps.size = n)
    (start : ∀ L, (∀ k, L k = false) → G L w)
    (step : AllFrom (LocStepG P ops Spec G a0 Q) 0 l)
    (fin : ∀ (L : Nat → Bool) (a : Act) (w' : World), (∀ k, k < ops.size → L k = true) → a.defers = a0.defers → a.tmps.size = n → (∀ k, freeSlotA ops k = true → a.tmps[k]?.getD undef = a0.tmps[k]?.getD undef) →
      (∀ j d, writes ops j d = true → Spec L j w' (a.tmps[d]?.getD undef)) → G L w' → Q .normal a w') :
    (Code.region id l.toArray false).wp P Q a0 w := by
  subst hl
  have hg : ∀ k, got (Array.replicate l.toArray.size false) k = false := fun k => by unfold got; by_cases h : k < l.length <;> simp [h]
  refine wp_region ?_
  rw [List.range_eq_range']
  refine locm_list (Spec := Spec) (G := G) hB hn (fun i o ho => ?_) (fun L a w' h1 h2 h3 h4 h5 h6 => fin L a w' h1 h2 h3 (fun k hk => ?_) (fun j d hw => ?_) h6) _ 0 (Array.replicate l.toArray.size false) _ _ (by simp) (fun j => by rw [hg]; simp) ⟨by simp, rfl, rfl, fun _ _ => rfl, fun j d hj _ => ?_, fun j k hj _ => ?_, start _ hg⟩
  · have := all_from l 0 i o step (by simpa using ho)
    rw [Nat.zero_add] at this
    exact this
  · rw [← Array.getD_eq_getD_getElem?, ← Array.getD_eq_getD_getElem?]; exact h4 k hk
  · rw [← Array.getD_eq_getD_getElem?]; exact h5 j d hw
  · rw [hg] at hj; cases hj
  · rw [hg] at hj; cases hj
theorem wp_region_fillW {id n : Nat} {l : List Oper} {w : World} (hl : ops = l.toArray) (Spec : (Nat → Bool) → Nat → World → Value → Prop) (hB : locmB n ops = true) (hn : a0.tmps.size = n)
    (step : AllFrom (LocStep P ops Spec w a0 Q) 0 l)
    (fin : ∀ (L : Nat → Bool) (a : Act) (w' : World), (∀ k, k < ops.size → L k = true) → a.defers = a0.defers → a.tmps.size = n → (∀ k, freeSlotA ops k = true → a.tmps[k]?.getD undef = a0.tmps[k]?.getD undef) →
      (∀ j d, writes ops j d = true → Spec L j w' (a.tmps[d]?.getD undef)) → Grew w w' → Q .normal a w') :
    (Code.region id l.toArray false).wp P Q a0 w :=
  wp_region_fillO hl (Spec := Spec) (G := fun _ w' => Grew w w') hB hn (fun _ _ => Grew.refl w) step fin
end
end Go.Proofs.YtnhigfkhdmkoeaaGreatDoor


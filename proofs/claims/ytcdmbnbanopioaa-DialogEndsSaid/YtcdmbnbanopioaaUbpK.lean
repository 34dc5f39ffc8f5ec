/-
  The program's table of UBX kinds: the map that ubx.kinds makes, in whatever order its entries come up.
-/
import Derived.Test.YtcdmbnbanopioaaUbpM
import Derived.Deep.CutBlock
import Derived.Deep.DeepCutAuto
namespace Go.Proofs.Ytcdmbnbanopioaa
open Go.RowKit
set_option linter.unusedVariables false

/-- The cells of a kind's fields. -/
def fieldCells : List Int → List Value
  | p :: s :: r => .int .i64 p :: .int .i64 (s.natAbs : Nat) :: .bool (decide (s < 0)) :: fieldCells r
  | _ => []
def opsAt (n : Nat) : Code → Array Oper
  | .region k ops _ => if k = n then ops else #[]
  | .seq a b => opsAt n a ++ opsAt n b
  | _ => #[]
noncomputable def kOps : Array Oper := (Try.f43.body.map (opsAt 1)).getD #[]
noncomputable def kRows : List KRow := [⟨16, 1, 7, 92, fieldCells [0, 4, 4, 2, 6, 1, 7, 1, 8, 1, 9, 1, 10, 1, 11, 1, 12, 4, 16, -4, 20, 1, 21, 1]⟩,
  ⟨26, 1, 32, 16, fieldCells [0, 4, 4, -4, 8, 2, 10, -1, 11, 1, 12, 4]⟩,
  ⟨40, 1, 33, 20, fieldCells [0, 4, 4, 4, 8, -4, 12, 2, 14, 1, 15, 1, 16, 1, 17, 1, 18, 1, 19, 1]⟩,
  ⟨54, 1, 38, 24, fieldCells [0, 4, 4, 1, 8, 1, 9, -1, 10, 1, 11, -1, 12, -4, 16, 2, 18, 2, 23, 1]⟩,
  ⟨64, 13, 1, 16, fieldCells [0, 4, 4, 4, 8, -4, 12, 2, 14, 1, 15, 1]⟩,
  ⟨70, 5, 0, 2, fieldCells [0, 1, 1, 1]⟩,
  ⟨76, 5, 1, 2, fieldCells [0, 1, 1, 1]⟩,
  ⟨83, 6, 1, 3, fieldCells [0, 1, 1, 1, 2, 1]⟩,
  ⟨90, 6, 8, 6, fieldCells [0, 2, 2, 2, 4, 2]⟩,
  ⟨99, 6, 49, 32, fieldCells [0, 1, 4, -2, 8, 4, 16, 4, 28, 4]⟩]
theorem kRows_good : KGood kRows := by
  constructor <;> (unfold kRows; simp)
set_option maxHeartbeats 1000000 in
theorem ubp_unsigned (p n : Int) (w : World) : Calls Try.prog 51 #[.int .i64 p, .int .i64 n] w fun e w' => e = .returned (.agg #[.int .i64 p, .int .i64 n, .bool false]) ∧ Grew w w' := by
  go_enter Try.func51, Try.ntmps51
  go_wp2_with fail
  refine bodyPost_ret (by simp [results, Try.results51, go_sem]; try rfl) rfl ?_
  exact ⟨rfl, (Grew.refl w).alloc _⟩
set_option maxHeartbeats 1000000 in
theorem ubp_signed (p n : Int) (w : World) : Calls Try.prog 52 #[.int .i64 p, .int .i64 n] w fun e w' => e = .returned (.agg #[.int .i64 p, .int .i64 n, .bool true]) ∧ Grew w w' := by
  go_enter Try.func52, Try.ntmps52
  go_wp2_with fail
  refine bodyPost_ret (by simp [results, Try.results52, go_sem]; try rfl) rfl ?_
  exact ⟨rfl, (Grew.refl w).alloc _⟩
/-- The table as it stands. -/
def KindsAt (w : World) (v : Value) : Prop :=
  ∃ m es clk, v = .map (some m) ∧ w.heap[m]? = some (.map es clk) ∧ (∀ e ∈ es.toList, ∃ k ∈ kRows, KEntry 97 w k e) ∧ (∀ k ∈ kRows, ∃ e ∈ es.toList, KEntry 97 w k e)
noncomputable def kShapes : List KShape := [.inr (.inr (.inr ())),
  .inl (keyV 1 7),
  .inl (.agg #[.int .i64 0, .int .i64 4, .bool false]),
  .inl (.agg #[.int .i64 4, .int .i64 2, .bool false]),
  .inl (.agg #[.int .i64 6, .int .i64 1, .bool false]),
  .inl (.agg #[.int .i64 7, .int .i64 1, .bool false]),
  .inl (.agg #[.int .i64 8, .int .i64 1, .bool false]),
  .inl (.agg #[.int .i64 9, .int .i64 1, .bool false]),
  .inl (.agg #[.int .i64 10, .int .i64 1, .bool false]),
  .inl (.agg #[.int .i64 11, .int .i64 1, .bool false]),
  .inl (.agg #[.int .i64 12, .int .i64 4, .bool false]),
  .inl (.agg #[.int .i64 16, .int .i64 4, .bool true]),
  .inl (.agg #[.int .i64 20, .int .i64 1, .bool false]),
  .inl (.agg #[.int .i64 21, .int .i64 1, .bool false]),
  .inr (.inl (fieldCells [0, 4, 4, 2, 6, 1, 7, 1, 8, 1, 9, 1, 10, 1, 11, 1, 12, 4, 16, -4, 20, 1, 21, 1])),
  .inr (.inr (.inl (92, fieldCells [0, 4, 4, 2, 6, 1, 7, 1, 8, 1, 9, 1, 10, 1, 11, 1, 12, 4, 16, -4, 20, 1, 21, 1]))),
  .inl undef,
  .inl (keyV 1 32),
  .inl (.agg #[.int .i64 0, .int .i64 4, .bool false]),
  .inl (.agg #[.int .i64 4, .int .i64 4, .bool true]),
  .inl (.agg #[.int .i64 8, .int .i64 2, .bool false]),
  .inl (.agg #[.int .i64 10, .int .i64 1, .bool true]),
  .inl (.agg #[.int .i64 11, .int .i64 1, .bool false]),
  .inl (.agg #[.int .i64 12, .int .i64 4, .bool false]),
  .inr (.inl (fieldCells [0, 4, 4, -4, 8, 2, 10, -1, 11, 1, 12, 4])),
  .inr (.inr (.inl (16, fieldCells [0, 4, 4, -4, 8, 2, 10, -1, 11, 1, 12, 4]))),
  .inl undef,
  .inl (keyV 1 33),
  .inl (.agg #[.int .i64 0, .int .i64 4, .bool false]),
  .inl (.agg #[.int .i64 4, .int .i64 4, .bool false]),
  .inl (.agg #[.int .i64 8, .int .i64 4, .bool true]),
  .inl (.agg #[.int .i64 12, .int .i64 2, .bool false]),
  .inl (.agg #[.int .i64 14, .int .i64 1, .bool false]),
  .inl (.agg #[.int .i64 15, .int .i64 1, .bool false]),
  .inl (.agg #[.int .i64 16, .int .i64 1, .bool false]),
  .inl (.agg #[.int .i64 17, .int .i64 1, .bool false]),
  .inl (.agg #[.int .i64 18, .int .i64 1, .bool false]),
  .inl (.agg #[.int .i64 19, .int .i64 1, .bool false]),
  .inr (.inl (fieldCells [0, 4, 4, 4, 8, -4, 12, 2, 14, 1, 15, 1, 16, 1, 17, 1, 18, 1, 19, 1])),
  .inr (.inr (.inl (20, fieldCells [0, 4, 4, 4, 8, -4, 12, 2, 14, 1, 15, 1, 16, 1, 17, 1, 18, 1, 19, 1]))),
  .inl undef,
  .inl (keyV 1 38),
  .inl (.agg #[.int .i64 0, .int .i64 4, .bool false]),
  .inl (.agg #[.int .i64 4, .int .i64 1, .bool false]),
  .inl (.agg #[.int .i64 8, .int .i64 1, .bool false]),
  .inl (.agg #[.int .i64 9, .int .i64 1, .bool true]),
  .inl (.agg #[.int .i64 10, .int .i64 1, .bool false]),
  .inl (.agg #[.int .i64 11, .int .i64 1, .bool true]),
  .inl (.agg #[.int .i64 12, .int .i64 4, .bool true]),
  .inl (.agg #[.int .i64 16, .int .i64 2, .bool false]),
  .inl (.agg #[.int .i64 18, .int .i64 2, .bool false]),
  .inl (.agg #[.int .i64 23, .int .i64 1, .bool false]),
  .inr (.inl (fieldCells [0, 4, 4, 1, 8, 1, 9, -1, 10, 1, 11, -1, 12, -4, 16, 2, 18, 2, 23, 1])),
  .inr (.inr (.inl (24, fieldCells [0, 4, 4, 1, 8, 1, 9, -1, 10, 1, 11, -1, 12, -4, 16, 2, 18, 2, 23, 1]))),
  .inl undef,
  .inl (keyV 13 1),
  .inl (.agg #[.int .i64 0, .int .i64 4, .bool false]),
  .inl (.agg #[.int .i64 4, .int .i64 4, .bool false]),
  .inl (.agg #[.int .i64 8, .int .i64 4, .bool true]),
  .inl (.agg #[.int .i64 12, .int .i64 2, .bool false]),
  .inl (.agg #[.int .i64 14, .int .i64 1, .bool false]),
  .inl (.agg #[.int .i64 15, .int .i64 1, .bool false]),
  .inr (.inl (fieldCells [0, 4, 4, 4, 8, -4, 12, 2, 14, 1, 15, 1])),
  .inr (.inr (.inl (16, fieldCells [0, 4, 4, 4, 8, -4, 12, 2, 14, 1, 15, 1]))),
  .inl undef,
  .inl (keyV 5 0),
  .inl (.agg #[.int .i64 0, .int .i64 1, .bool false]),
  .inl (.agg #[.int .i64 1, .int .i64 1, .bool false]),
  .inr (.inl (fieldCells [0, 1, 1, 1])),
  .inr (.inr (.inl (2, fieldCells [0, 1, 1, 1]))),
  .inl undef,
  .inl (keyV 5 1),
  .inl (.agg #[.int .i64 0, .int .i64 1, .bool false]),
  .inl (.agg #[.int .i64 1, .int .i64 1, .bool false]),
  .inr (.inl (fieldCells [0, 1, 1, 1])),
  .inr (.inr (.inl (2, fieldCells [0, 1, 1, 1]))),
  .inl undef,
  .inl (keyV 6 1),
  .inl (.agg #[.int .i64 0, .int .i64 1, .bool false]),
  .inl (.agg #[.int .i64 1, .int .i64 1, .bool false]),
  .inl (.agg #[.int .i64 2, .int .i64 1, .bool false]),
  .inr (.inl (fieldCells [0, 1, 1, 1, 2, 1])),
  .inr (.inr (.inl (3, fieldCells [0, 1, 1, 1, 2, 1]))),
  .inl undef,
  .inl (keyV 6 8),
  .inl (.agg #[.int .i64 0, .int .i64 2, .bool false]),
  .inl (.agg #[.int .i64 2, .int .i64 2, .bool false]),
  .inl (.agg #[.int .i64 4, .int .i64 2, .bool false]),
  .inr (.inl (fieldCells [0, 2, 2, 2, 4, 2])),
  .inr (.inr (.inl (6, fieldCells [0, 2, 2, 2, 4, 2]))),
  .inl undef,
  .inl (keyV 6 49),
  .inl (.agg #[.int .i64 0, .int .i64 1, .bool false]),
  .inl (.agg #[.int .i64 4, .int .i64 2, .bool true]),
  .inl (.agg #[.int .i64 8, .int .i64 4, .bool false]),
  .inl (.agg #[.int .i64 16, .int .i64 4, .bool false]),
  .inl (.agg #[.int .i64 28, .int .i64 4, .bool false]),
  .inr (.inl (fieldCells [0, 1, 4, -2, 8, 4, 16, 4, 28, 4])),
  .inr (.inr (.inl (32, fieldCells [0, 1, 4, -2, 8, 4, 16, 4, 28, 4]))),
  .inl undef,
  .inr (.inr (.inr ())),
  .inr (.inr (.inr ()))]
set_option maxRecDepth 1000000 in
set_option maxHeartbeats 8000000 in
theorem ubp_kinds (w : World) : Calls Try.prog 43 #[] w fun e w' => ∃ v, e = .returned v ∧ KindsAt w' v ∧ Grew w w' := by
  go_enter Try.func43, Try.ntmps43
  go_upto_region 1 with fail
  refine wp_region_fill (n := 92) (ops := kOps) ?_ (fun L i w' v => KLeft 97 w kRows L (kShapes.getD i (.inl undef)) w' v) ?_ ?_ ?_ ?_ ?_
  case refine_1 => kernel_rfl
  case refine_2 => kernel_rfl
  case refine_3 => kernel_rfl
  case refine_4 => rfl
  case refine_6 =>
    intro L a w' hL hdef hsz ho hd g
    obtain ⟨m, e1, hWm, es, clk, hb, h1, h2⟩ : KLeft 97 w kRows L (.inr (.inr (.inr ()))) w' (a.tmps[0]?.getD undef) := hd 101 0 (by kernel_rfl)
    go_wp2_with fail
    refine bodyPost_ret (v := .map (some m)) (by simp [results, Try.results43, go_sem, e1]; try rfl) hdef ?_
    exact ⟨_, rfl, ⟨m, es, clk, rfl, hb, fun e he => (by obtain ⟨k, hk, _, hx⟩ := h1 e he; exact ⟨k, hk, hx⟩), fun k hk => h2 k hk (hL _ (by have := List.all_eq_true.1 (show kRows.all (fun k => decide (k.at_ < kOps.size)) = true by kernel_rfl) k hk; simpa using this))⟩, g⟩
  simp only [AllFrom, List.append]
  refine ⟨?_, ?_, ?_, ?_, ?_, ?_, ?_, ?_, ?_, ?_, ?_, ?_, ?_, ?_, ?_, ?_, ?_, ?_, ?_, ?_, ?_, ?_, ?_, ?_, ?_, ?_, ?_, ?_, ?_, ?_, ?_, ?_, ?_, ?_, ?_, ?_, ?_, ?_, ?_, ?_, ?_, ?_, ?_, ?_, ?_, ?_, ?_, ?_, ?_, ?_, ?_, ?_, ?_, ?_, ?_, ?_, ?_, ?_, ?_, ?_, ?_, ?_, ?_, ?_, ?_, ?_, ?_, ?_, ?_, ?_, ?_, ?_, ?_, ?_, ?_, ?_, ?_, ?_, ?_, ?_, ?_, ?_, ?_, ?_, ?_, ?_, ?_, ?_, ?_, ?_, ?_, ?_, ?_, ?_, ?_, ?_, ?_, ?_, ?_, ?_, ?_, ?_, trivial⟩
  · intro L a w' hL ho hw hc hd g
    refine km_of hd g (by kernel_rfl) ?_
    refine each_made (v := .map (some w'.heap.size)) (w1 := w'.alloc (.map #[] 0)) ?_ ((Grew.refl _).alloc _) ⟨_, rfl, g.size, #[], 0, heap_alloc_new _ _, fun e he => (by simp at he), fun k hk hl => ?_⟩
    · simp [execOp, go_sem, run_makeMap]
    · exfalso
      have hl2 : L k.at_ = true := by rw [also_ne (by have := List.all_eq_true.1 (show kRows.all (fun k => k.at_ != 0) = true by kernel_rfl) k hk; simpa using this)] at hl; exact hl
      have := hc k.at_ 0 hl2 (by have := List.all_eq_true.1 (show kRows.all (fun k => waitsAt kOps k.at_ 0) = true by kernel_rfl) k hk; simpa using this)
      rw [hL] at this
      cases this
  · intro L a w' hL ho hw hc hd g
    refine km_of hd g (by kernel_rfl) (each_value (v := keyV 1 7) ?_ rfl)
    simp [execOp, go_sem, keyV]
  · intro L a w' hL ho hw hc hd g
    exact km_of hd g (by kernel_rfl) (each_call (f := 51) (args := #[.int .i64 0, .int .i64 4]) (by simp [go_sem]) ((ubp_unsigned 0 4 w').mono (fun e w'' q => ⟨_, q.1, rfl, q.2⟩)))
  · intro L a w' hL ho hw hc hd g
    exact km_of hd g (by kernel_rfl) (each_call (f := 51) (args := #[.int .i64 4, .int .i64 2]) (by simp [go_sem]) ((ubp_unsigned 4 2 w').mono (fun e w'' q => ⟨_, q.1, rfl, q.2⟩)))
  · intro L a w' hL ho hw hc hd g
    exact km_of hd g (by kernel_rfl) (each_call (f := 51) (args := #[.int .i64 6, .int .i64 1]) (by simp [go_sem]) ((ubp_unsigned 6 1 w').mono (fun e w'' q => ⟨_, q.1, rfl, q.2⟩)))
  · intro L a w' hL ho hw hc hd g
    exact km_of hd g (by kernel_rfl) (each_call (f := 51) (args := #[.int .i64 7, .int .i64 1]) (by simp [go_sem]) ((ubp_unsigned 7 1 w').mono (fun e w'' q => ⟨_, q.1, rfl, q.2⟩)))
  · intro L a w' hL ho hw hc hd g
    exact km_of hd g (by kernel_rfl) (each_call (f := 51) (args := #[.int .i64 8, .int .i64 1]) (by simp [go_sem]) ((ubp_unsigned 8 1 w').mono (fun e w'' q => ⟨_, q.1, rfl, q.2⟩)))
  · intro L a w' hL ho hw hc hd g
    exact km_of hd g (by kernel_rfl) (each_call (f := 51) (args := #[.int .i64 9, .int .i64 1]) (by simp [go_sem]) ((ubp_unsigned 9 1 w').mono (fun e w'' q => ⟨_, q.1, rfl, q.2⟩)))
  · intro L a w' hL ho hw hc hd g
    exact km_of hd g (by kernel_rfl) (each_call (f := 51) (args := #[.int .i64 10, .int .i64 1]) (by simp [go_sem]) ((ubp_unsigned 10 1 w').mono (fun e w'' q => ⟨_, q.1, rfl, q.2⟩)))
  · intro L a w' hL ho hw hc hd g
    exact km_of hd g (by kernel_rfl) (each_call (f := 51) (args := #[.int .i64 11, .int .i64 1]) (by simp [go_sem]) ((ubp_unsigned 11 1 w').mono (fun e w'' q => ⟨_, q.1, rfl, q.2⟩)))
  · intro L a w' hL ho hw hc hd g
    exact km_of hd g (by kernel_rfl) (each_call (f := 51) (args := #[.int .i64 12, .int .i64 4]) (by simp [go_sem]) ((ubp_unsigned 12 4 w').mono (fun e w'' q => ⟨_, q.1, rfl, q.2⟩)))
  · intro L a w' hL ho hw hc hd g
    exact km_of hd g (by kernel_rfl) (each_call (f := 52) (args := #[.int .i64 16, .int .i64 4]) (by simp [go_sem]) ((ubp_signed 16 4 w').mono (fun e w'' q => ⟨_, q.1, rfl, q.2⟩)))
  · intro L a w' hL ho hw hc hd g
    exact km_of hd g (by kernel_rfl) (each_call (f := 51) (args := #[.int .i64 20, .int .i64 1]) (by simp [go_sem]) ((ubp_unsigned 20 1 w').mono (fun e w'' q => ⟨_, q.1, rfl, q.2⟩)))
  · intro L a w' hL ho hw hc hd g
    exact km_of hd g (by kernel_rfl) (each_call (f := 51) (args := #[.int .i64 21, .int .i64 1]) (by simp [go_sem]) ((ubp_unsigned 21 1 w').mono (fun e w'' q => ⟨_, q.1, rfl, q.2⟩)))
  · intro L a w' hL ho hw hc hd g
    have e3 : a.tmps[3]?.getD undef = .agg #[.int .i64 0, .int .i64 4, .bool false] := hd 2 3 (hw 2 (by kernel_rfl)) (by kernel_rfl)
    have e4 : a.tmps[4]?.getD undef = .agg #[.int .i64 4, .int .i64 2, .bool false] := hd 3 4 (hw 3 (by kernel_rfl)) (by kernel_rfl)
    have e5 : a.tmps[5]?.getD undef = .agg #[.int .i64 6, .int .i64 1, .bool false] := hd 4 5 (hw 4 (by kernel_rfl)) (by kernel_rfl)
    have e6 : a.tmps[6]?.getD undef = .agg #[.int .i64 7, .int .i64 1, .bool false] := hd 5 6 (hw 5 (by kernel_rfl)) (by kernel_rfl)
    have e7 : a.tmps[7]?.getD undef = .agg #[.int .i64 8, .int .i64 1, .bool false] := hd 6 7 (hw 6 (by kernel_rfl)) (by kernel_rfl)
    have e8 : a.tmps[8]?.getD undef = .agg #[.int .i64 9, .int .i64 1, .bool false] := hd 7 8 (hw 7 (by kernel_rfl)) (by kernel_rfl)
    have e9 : a.tmps[9]?.getD undef = .agg #[.int .i64 10, .int .i64 1, .bool false] := hd 8 9 (hw 8 (by kernel_rfl)) (by kernel_rfl)
    have e10 : a.tmps[10]?.getD undef = .agg #[.int .i64 11, .int .i64 1, .bool false] := hd 9 10 (hw 9 (by kernel_rfl)) (by kernel_rfl)
    have e11 : a.tmps[11]?.getD undef = .agg #[.int .i64 12, .int .i64 4, .bool false] := hd 10 11 (hw 10 (by kernel_rfl)) (by kernel_rfl)
    have e12 : a.tmps[12]?.getD undef = .agg #[.int .i64 16, .int .i64 4, .bool true] := hd 11 12 (hw 11 (by kernel_rfl)) (by kernel_rfl)
    have e13 : a.tmps[13]?.getD undef = .agg #[.int .i64 20, .int .i64 1, .bool false] := hd 12 13 (hw 12 (by kernel_rfl)) (by kernel_rfl)
    have e14 : a.tmps[14]?.getD undef = .agg #[.int .i64 21, .int .i64 1, .bool false] := hd 13 14 (hw 13 (by kernel_rfl)) (by kernel_rfl)
    refine km_of hd g (by kernel_rfl) (each_made (v := .slice (some ⟨w'.heap.size, 0, none⟩) 12 12) (w1 := w'.alloc (.cells #[.int .i64 0, .int .i64 4, .bool false, .int .i64 4, .int .i64 2, .bool false, .int .i64 6, .int .i64 1, .bool false, .int .i64 7, .int .i64 1, .bool false, .int .i64 8, .int .i64 1, .bool false, .int .i64 9, .int .i64 1, .bool false, .int .i64 10, .int .i64 1, .bool false, .int .i64 11, .int .i64 1, .bool false, .int .i64 12, .int .i64 4, .bool false, .int .i64 16, .int .i64 4, .bool true, .int .i64 20, .int .i64 1, .bool false, .int .i64 21, .int .i64 1, .bool false] 97)) ?_ ((Grew.refl _).alloc _) ⟨_, _, rfl, by kernel_rfl, heap_alloc_new _ _⟩)
    clear hd hw hc ho
    simp [execOp, go_sem, e3, e4, e5, e6, e7, e8, e9, e10, e11, e12, e13, e14]
  · intro L a w' hL ho hw hc hd g
    obtain ⟨b, n, e1, hn, hb⟩ : KLeft 97 w kRows L (.inr (.inl (fieldCells [0, 4, 4, 2, 6, 1, 7, 1, 8, 1, 9, 1, 10, 1, 11, 1, 12, 4, 16, -4, 20, 1, 21, 1]))) w' (a.tmps[15]?.getD undef) := hd 14 15 (hw 14 (by kernel_rfl)) (by kernel_rfl)
    refine km_of hd g (by kernel_rfl) (each_value (v := .agg #[.int .i64 92, .slice (some ⟨b, 0, none⟩) n n]) ?_ ⟨b, n, rfl, hn, hb⟩)
    clear hd hw hc ho
    simp [execOp, go_sem, e1]
  · intro L a w' hL ho hw hc hd g
    exact km_insert (k := ⟨16, 1, 7, 92, fieldCells [0, 4, 4, 2, 6, 1, 7, 1, 8, 1, 9, 1, 10, 1, 11, 1, 12, 4, 16, -4, 20, 1, 21, 1]⟩) kRows_good (by simp [kRows]) rfl rfl rfl hL hd hc g (by kernel_rfl) rfl (by kernel_rfl) (hd 0 1 (hw 0 (by kernel_rfl)) (by kernel_rfl)) (hd 1 2 (hw 1 (by kernel_rfl)) (by kernel_rfl)) (hd 15 16 (hw 15 (by kernel_rfl)) (by kernel_rfl))
  · intro L a w' hL ho hw hc hd g
    refine km_of hd g (by kernel_rfl) (each_value (v := keyV 1 32) ?_ rfl)
    simp [execOp, go_sem, keyV]
  · intro L a w' hL ho hw hc hd g
    exact km_of hd g (by kernel_rfl) (each_call (f := 51) (args := #[.int .i64 0, .int .i64 4]) (by simp [go_sem]) ((ubp_unsigned 0 4 w').mono (fun e w'' q => ⟨_, q.1, rfl, q.2⟩)))
  · intro L a w' hL ho hw hc hd g
    exact km_of hd g (by kernel_rfl) (each_call (f := 52) (args := #[.int .i64 4, .int .i64 4]) (by simp [go_sem]) ((ubp_signed 4 4 w').mono (fun e w'' q => ⟨_, q.1, rfl, q.2⟩)))
  · intro L a w' hL ho hw hc hd g
    exact km_of hd g (by kernel_rfl) (each_call (f := 51) (args := #[.int .i64 8, .int .i64 2]) (by simp [go_sem]) ((ubp_unsigned 8 2 w').mono (fun e w'' q => ⟨_, q.1, rfl, q.2⟩)))
  · intro L a w' hL ho hw hc hd g
    exact km_of hd g (by kernel_rfl) (each_call (f := 52) (args := #[.int .i64 10, .int .i64 1]) (by simp [go_sem]) ((ubp_signed 10 1 w').mono (fun e w'' q => ⟨_, q.1, rfl, q.2⟩)))
  · intro L a w' hL ho hw hc hd g
    exact km_of hd g (by kernel_rfl) (each_call (f := 51) (args := #[.int .i64 11, .int .i64 1]) (by simp [go_sem]) ((ubp_unsigned 11 1 w').mono (fun e w'' q => ⟨_, q.1, rfl, q.2⟩)))
  · intro L a w' hL ho hw hc hd g
    exact km_of hd g (by kernel_rfl) (each_call (f := 51) (args := #[.int .i64 12, .int .i64 4]) (by simp [go_sem]) ((ubp_unsigned 12 4 w').mono (fun e w'' q => ⟨_, q.1, rfl, q.2⟩)))
  · intro L a w' hL ho hw hc hd g
    have e18 : a.tmps[18]?.getD undef = .agg #[.int .i64 0, .int .i64 4, .bool false] := hd 18 18 (hw 18 (by kernel_rfl)) (by kernel_rfl)
    have e19 : a.tmps[19]?.getD undef = .agg #[.int .i64 4, .int .i64 4, .bool true] := hd 19 19 (hw 19 (by kernel_rfl)) (by kernel_rfl)
    have e20 : a.tmps[20]?.getD undef = .agg #[.int .i64 8, .int .i64 2, .bool false] := hd 20 20 (hw 20 (by kernel_rfl)) (by kernel_rfl)
    have e21 : a.tmps[21]?.getD undef = .agg #[.int .i64 10, .int .i64 1, .bool true] := hd 21 21 (hw 21 (by kernel_rfl)) (by kernel_rfl)
    have e22 : a.tmps[22]?.getD undef = .agg #[.int .i64 11, .int .i64 1, .bool false] := hd 22 22 (hw 22 (by kernel_rfl)) (by kernel_rfl)
    have e23 : a.tmps[23]?.getD undef = .agg #[.int .i64 12, .int .i64 4, .bool false] := hd 23 23 (hw 23 (by kernel_rfl)) (by kernel_rfl)
    refine km_of hd g (by kernel_rfl) (each_made (v := .slice (some ⟨w'.heap.size, 0, none⟩) 6 6) (w1 := w'.alloc (.cells #[.int .i64 0, .int .i64 4, .bool false, .int .i64 4, .int .i64 4, .bool true, .int .i64 8, .int .i64 2, .bool false, .int .i64 10, .int .i64 1, .bool true, .int .i64 11, .int .i64 1, .bool false, .int .i64 12, .int .i64 4, .bool false] 97)) ?_ ((Grew.refl _).alloc _) ⟨_, _, rfl, by kernel_rfl, heap_alloc_new _ _⟩)
    clear hd hw hc ho
    simp [execOp, go_sem, e18, e19, e20, e21, e22, e23]
  · intro L a w' hL ho hw hc hd g
    obtain ⟨b, n, e1, hn, hb⟩ : KLeft 97 w kRows L (.inr (.inl (fieldCells [0, 4, 4, -4, 8, 2, 10, -1, 11, 1, 12, 4]))) w' (a.tmps[24]?.getD undef) := hd 24 24 (hw 24 (by kernel_rfl)) (by kernel_rfl)
    refine km_of hd g (by kernel_rfl) (each_value (v := .agg #[.int .i64 16, .slice (some ⟨b, 0, none⟩) n n]) ?_ ⟨b, n, rfl, hn, hb⟩)
    clear hd hw hc ho
    simp [execOp, go_sem, e1]
  · intro L a w' hL ho hw hc hd g
    exact km_insert (k := ⟨26, 1, 32, 16, fieldCells [0, 4, 4, -4, 8, 2, 10, -1, 11, 1, 12, 4]⟩) kRows_good (by simp [kRows]) rfl rfl rfl hL hd hc g (by kernel_rfl) rfl (by kernel_rfl) (hd 0 1 (hw 0 (by kernel_rfl)) (by kernel_rfl)) (hd 17 17 (hw 17 (by kernel_rfl)) (by kernel_rfl)) (hd 25 25 (hw 25 (by kernel_rfl)) (by kernel_rfl))
  · intro L a w' hL ho hw hc hd g
    refine km_of hd g (by kernel_rfl) (each_value (v := keyV 1 33) ?_ rfl)
    simp [execOp, go_sem, keyV]
  · intro L a w' hL ho hw hc hd g
    exact km_of hd g (by kernel_rfl) (each_call (f := 51) (args := #[.int .i64 0, .int .i64 4]) (by simp [go_sem]) ((ubp_unsigned 0 4 w').mono (fun e w'' q => ⟨_, q.1, rfl, q.2⟩)))
  · intro L a w' hL ho hw hc hd g
    exact km_of hd g (by kernel_rfl) (each_call (f := 51) (args := #[.int .i64 4, .int .i64 4]) (by simp [go_sem]) ((ubp_unsigned 4 4 w').mono (fun e w'' q => ⟨_, q.1, rfl, q.2⟩)))
  · intro L a w' hL ho hw hc hd g
    exact km_of hd g (by kernel_rfl) (each_call (f := 52) (args := #[.int .i64 8, .int .i64 4]) (by simp [go_sem]) ((ubp_signed 8 4 w').mono (fun e w'' q => ⟨_, q.1, rfl, q.2⟩)))
  · intro L a w' hL ho hw hc hd g
    exact km_of hd g (by kernel_rfl) (each_call (f := 51) (args := #[.int .i64 12, .int .i64 2]) (by simp [go_sem]) ((ubp_unsigned 12 2 w').mono (fun e w'' q => ⟨_, q.1, rfl, q.2⟩)))
  · intro L a w' hL ho hw hc hd g
    exact km_of hd g (by kernel_rfl) (each_call (f := 51) (args := #[.int .i64 14, .int .i64 1]) (by simp [go_sem]) ((ubp_unsigned 14 1 w').mono (fun e w'' q => ⟨_, q.1, rfl, q.2⟩)))
  · intro L a w' hL ho hw hc hd g
    exact km_of hd g (by kernel_rfl) (each_call (f := 51) (args := #[.int .i64 15, .int .i64 1]) (by simp [go_sem]) ((ubp_unsigned 15 1 w').mono (fun e w'' q => ⟨_, q.1, rfl, q.2⟩)))
  · intro L a w' hL ho hw hc hd g
    exact km_of hd g (by kernel_rfl) (each_call (f := 51) (args := #[.int .i64 16, .int .i64 1]) (by simp [go_sem]) ((ubp_unsigned 16 1 w').mono (fun e w'' q => ⟨_, q.1, rfl, q.2⟩)))
  · intro L a w' hL ho hw hc hd g
    exact km_of hd g (by kernel_rfl) (each_call (f := 51) (args := #[.int .i64 17, .int .i64 1]) (by simp [go_sem]) ((ubp_unsigned 17 1 w').mono (fun e w'' q => ⟨_, q.1, rfl, q.2⟩)))
  · intro L a w' hL ho hw hc hd g
    exact km_of hd g (by kernel_rfl) (each_call (f := 51) (args := #[.int .i64 18, .int .i64 1]) (by simp [go_sem]) ((ubp_unsigned 18 1 w').mono (fun e w'' q => ⟨_, q.1, rfl, q.2⟩)))
  · intro L a w' hL ho hw hc hd g
    exact km_of hd g (by kernel_rfl) (each_call (f := 51) (args := #[.int .i64 19, .int .i64 1]) (by simp [go_sem]) ((ubp_unsigned 19 1 w').mono (fun e w'' q => ⟨_, q.1, rfl, q.2⟩)))
  · intro L a w' hL ho hw hc hd g
    have e27 : a.tmps[27]?.getD undef = .agg #[.int .i64 0, .int .i64 4, .bool false] := hd 28 27 (hw 28 (by kernel_rfl)) (by kernel_rfl)
    have e28 : a.tmps[28]?.getD undef = .agg #[.int .i64 4, .int .i64 4, .bool false] := hd 29 28 (hw 29 (by kernel_rfl)) (by kernel_rfl)
    have e29 : a.tmps[29]?.getD undef = .agg #[.int .i64 8, .int .i64 4, .bool true] := hd 30 29 (hw 30 (by kernel_rfl)) (by kernel_rfl)
    have e30 : a.tmps[30]?.getD undef = .agg #[.int .i64 12, .int .i64 2, .bool false] := hd 31 30 (hw 31 (by kernel_rfl)) (by kernel_rfl)
    have e31 : a.tmps[31]?.getD undef = .agg #[.int .i64 14, .int .i64 1, .bool false] := hd 32 31 (hw 32 (by kernel_rfl)) (by kernel_rfl)
    have e32 : a.tmps[32]?.getD undef = .agg #[.int .i64 15, .int .i64 1, .bool false] := hd 33 32 (hw 33 (by kernel_rfl)) (by kernel_rfl)
    have e33 : a.tmps[33]?.getD undef = .agg #[.int .i64 16, .int .i64 1, .bool false] := hd 34 33 (hw 34 (by kernel_rfl)) (by kernel_rfl)
    have e34 : a.tmps[34]?.getD undef = .agg #[.int .i64 17, .int .i64 1, .bool false] := hd 35 34 (hw 35 (by kernel_rfl)) (by kernel_rfl)
    have e35 : a.tmps[35]?.getD undef = .agg #[.int .i64 18, .int .i64 1, .bool false] := hd 36 35 (hw 36 (by kernel_rfl)) (by kernel_rfl)
    have e36 : a.tmps[36]?.getD undef = .agg #[.int .i64 19, .int .i64 1, .bool false] := hd 37 36 (hw 37 (by kernel_rfl)) (by kernel_rfl)
    refine km_of hd g (by kernel_rfl) (each_made (v := .slice (some ⟨w'.heap.size, 0, none⟩) 10 10) (w1 := w'.alloc (.cells #[.int .i64 0, .int .i64 4, .bool false, .int .i64 4, .int .i64 4, .bool false, .int .i64 8, .int .i64 4, .bool true, .int .i64 12, .int .i64 2, .bool false, .int .i64 14, .int .i64 1, .bool false, .int .i64 15, .int .i64 1, .bool false, .int .i64 16, .int .i64 1, .bool false, .int .i64 17, .int .i64 1, .bool false, .int .i64 18, .int .i64 1, .bool false, .int .i64 19, .int .i64 1, .bool false] 97)) ?_ ((Grew.refl _).alloc _) ⟨_, _, rfl, by kernel_rfl, heap_alloc_new _ _⟩)
    clear hd hw hc ho
    simp [execOp, go_sem, e27, e28, e29, e30, e31, e32, e33, e34, e35, e36]
  · intro L a w' hL ho hw hc hd g
    obtain ⟨b, n, e1, hn, hb⟩ : KLeft 97 w kRows L (.inr (.inl (fieldCells [0, 4, 4, 4, 8, -4, 12, 2, 14, 1, 15, 1, 16, 1, 17, 1, 18, 1, 19, 1]))) w' (a.tmps[37]?.getD undef) := hd 38 37 (hw 38 (by kernel_rfl)) (by kernel_rfl)
    refine km_of hd g (by kernel_rfl) (each_value (v := .agg #[.int .i64 20, .slice (some ⟨b, 0, none⟩) n n]) ?_ ⟨b, n, rfl, hn, hb⟩)
    clear hd hw hc ho
    simp [execOp, go_sem, e1]
  · intro L a w' hL ho hw hc hd g
    exact km_insert (k := ⟨40, 1, 33, 20, fieldCells [0, 4, 4, 4, 8, -4, 12, 2, 14, 1, 15, 1, 16, 1, 17, 1, 18, 1, 19, 1]⟩) kRows_good (by simp [kRows]) rfl rfl rfl hL hd hc g (by kernel_rfl) rfl (by kernel_rfl) (hd 0 1 (hw 0 (by kernel_rfl)) (by kernel_rfl)) (hd 27 26 (hw 27 (by kernel_rfl)) (by kernel_rfl)) (hd 39 38 (hw 39 (by kernel_rfl)) (by kernel_rfl))
  · intro L a w' hL ho hw hc hd g
    refine km_of hd g (by kernel_rfl) (each_value (v := keyV 1 38) ?_ rfl)
    simp [execOp, go_sem, keyV]
  · intro L a w' hL ho hw hc hd g
    exact km_of hd g (by kernel_rfl) (each_call (f := 51) (args := #[.int .i64 0, .int .i64 4]) (by simp [go_sem]) ((ubp_unsigned 0 4 w').mono (fun e w'' q => ⟨_, q.1, rfl, q.2⟩)))
  · intro L a w' hL ho hw hc hd g
    exact km_of hd g (by kernel_rfl) (each_call (f := 51) (args := #[.int .i64 4, .int .i64 1]) (by simp [go_sem]) ((ubp_unsigned 4 1 w').mono (fun e w'' q => ⟨_, q.1, rfl, q.2⟩)))
  · intro L a w' hL ho hw hc hd g
    exact km_of hd g (by kernel_rfl) (each_call (f := 51) (args := #[.int .i64 8, .int .i64 1]) (by simp [go_sem]) ((ubp_unsigned 8 1 w').mono (fun e w'' q => ⟨_, q.1, rfl, q.2⟩)))
  · intro L a w' hL ho hw hc hd g
    exact km_of hd g (by kernel_rfl) (each_call (f := 52) (args := #[.int .i64 9, .int .i64 1]) (by simp [go_sem]) ((ubp_signed 9 1 w').mono (fun e w'' q => ⟨_, q.1, rfl, q.2⟩)))
  · intro L a w' hL ho hw hc hd g
    exact km_of hd g (by kernel_rfl) (each_call (f := 51) (args := #[.int .i64 10, .int .i64 1]) (by simp [go_sem]) ((ubp_unsigned 10 1 w').mono (fun e w'' q => ⟨_, q.1, rfl, q.2⟩)))
  · intro L a w' hL ho hw hc hd g
    exact km_of hd g (by kernel_rfl) (each_call (f := 52) (args := #[.int .i64 11, .int .i64 1]) (by simp [go_sem]) ((ubp_signed 11 1 w').mono (fun e w'' q => ⟨_, q.1, rfl, q.2⟩)))
  · intro L a w' hL ho hw hc hd g
    exact km_of hd g (by kernel_rfl) (each_call (f := 52) (args := #[.int .i64 12, .int .i64 4]) (by simp [go_sem]) ((ubp_signed 12 4 w').mono (fun e w'' q => ⟨_, q.1, rfl, q.2⟩)))
  · intro L a w' hL ho hw hc hd g
    exact km_of hd g (by kernel_rfl) (each_call (f := 51) (args := #[.int .i64 16, .int .i64 2]) (by simp [go_sem]) ((ubp_unsigned 16 2 w').mono (fun e w'' q => ⟨_, q.1, rfl, q.2⟩)))
  · intro L a w' hL ho hw hc hd g
    exact km_of hd g (by kernel_rfl) (each_call (f := 51) (args := #[.int .i64 18, .int .i64 2]) (by simp [go_sem]) ((ubp_unsigned 18 2 w').mono (fun e w'' q => ⟨_, q.1, rfl, q.2⟩)))
  · intro L a w' hL ho hw hc hd g
    exact km_of hd g (by kernel_rfl) (each_call (f := 51) (args := #[.int .i64 23, .int .i64 1]) (by simp [go_sem]) ((ubp_unsigned 23 1 w').mono (fun e w'' q => ⟨_, q.1, rfl, q.2⟩)))
  · intro L a w' hL ho hw hc hd g
    have e40 : a.tmps[40]?.getD undef = .agg #[.int .i64 0, .int .i64 4, .bool false] := hd 42 40 (hw 42 (by kernel_rfl)) (by kernel_rfl)
    have e41 : a.tmps[41]?.getD undef = .agg #[.int .i64 4, .int .i64 1, .bool false] := hd 43 41 (hw 43 (by kernel_rfl)) (by kernel_rfl)
    have e42 : a.tmps[42]?.getD undef = .agg #[.int .i64 8, .int .i64 1, .bool false] := hd 44 42 (hw 44 (by kernel_rfl)) (by kernel_rfl)
    have e43 : a.tmps[43]?.getD undef = .agg #[.int .i64 9, .int .i64 1, .bool true] := hd 45 43 (hw 45 (by kernel_rfl)) (by kernel_rfl)
    have e44 : a.tmps[44]?.getD undef = .agg #[.int .i64 10, .int .i64 1, .bool false] := hd 46 44 (hw 46 (by kernel_rfl)) (by kernel_rfl)
    have e45 : a.tmps[45]?.getD undef = .agg #[.int .i64 11, .int .i64 1, .bool true] := hd 47 45 (hw 47 (by kernel_rfl)) (by kernel_rfl)
    have e46 : a.tmps[46]?.getD undef = .agg #[.int .i64 12, .int .i64 4, .bool true] := hd 48 46 (hw 48 (by kernel_rfl)) (by kernel_rfl)
    have e47 : a.tmps[47]?.getD undef = .agg #[.int .i64 16, .int .i64 2, .bool false] := hd 49 47 (hw 49 (by kernel_rfl)) (by kernel_rfl)
    have e48 : a.tmps[48]?.getD undef = .agg #[.int .i64 18, .int .i64 2, .bool false] := hd 50 48 (hw 50 (by kernel_rfl)) (by kernel_rfl)
    have e49 : a.tmps[49]?.getD undef = .agg #[.int .i64 23, .int .i64 1, .bool false] := hd 51 49 (hw 51 (by kernel_rfl)) (by kernel_rfl)
    refine km_of hd g (by kernel_rfl) (each_made (v := .slice (some ⟨w'.heap.size, 0, none⟩) 10 10) (w1 := w'.alloc (.cells #[.int .i64 0, .int .i64 4, .bool false, .int .i64 4, .int .i64 1, .bool false, .int .i64 8, .int .i64 1, .bool false, .int .i64 9, .int .i64 1, .bool true, .int .i64 10, .int .i64 1, .bool false, .int .i64 11, .int .i64 1, .bool true, .int .i64 12, .int .i64 4, .bool true, .int .i64 16, .int .i64 2, .bool false, .int .i64 18, .int .i64 2, .bool false, .int .i64 23, .int .i64 1, .bool false] 97)) ?_ ((Grew.refl _).alloc _) ⟨_, _, rfl, by kernel_rfl, heap_alloc_new _ _⟩)
    clear hd hw hc ho
    simp [execOp, go_sem, e40, e41, e42, e43, e44, e45, e46, e47, e48, e49]
  · intro L a w' hL ho hw hc hd g
    obtain ⟨b, n, e1, hn, hb⟩ : KLeft 97 w kRows L (.inr (.inl (fieldCells [0, 4, 4, 1, 8, 1, 9, -1, 10, 1, 11, -1, 12, -4, 16, 2, 18, 2, 23, 1]))) w' (a.tmps[50]?.getD undef) := hd 52 50 (hw 52 (by kernel_rfl)) (by kernel_rfl)
    refine km_of hd g (by kernel_rfl) (each_value (v := .agg #[.int .i64 24, .slice (some ⟨b, 0, none⟩) n n]) ?_ ⟨b, n, rfl, hn, hb⟩)
    clear hd hw hc ho
    simp [execOp, go_sem, e1]
  · intro L a w' hL ho hw hc hd g
    exact km_insert (k := ⟨54, 1, 38, 24, fieldCells [0, 4, 4, 1, 8, 1, 9, -1, 10, 1, 11, -1, 12, -4, 16, 2, 18, 2, 23, 1]⟩) kRows_good (by simp [kRows]) rfl rfl rfl hL hd hc g (by kernel_rfl) rfl (by kernel_rfl) (hd 0 1 (hw 0 (by kernel_rfl)) (by kernel_rfl)) (hd 41 39 (hw 41 (by kernel_rfl)) (by kernel_rfl)) (hd 53 51 (hw 53 (by kernel_rfl)) (by kernel_rfl))
  · intro L a w' hL ho hw hc hd g
    refine km_of hd g (by kernel_rfl) (each_value (v := keyV 13 1) ?_ rfl)
    simp [execOp, go_sem, keyV]
  · intro L a w' hL ho hw hc hd g
    exact km_of hd g (by kernel_rfl) (each_call (f := 51) (args := #[.int .i64 0, .int .i64 4]) (by simp [go_sem]) ((ubp_unsigned 0 4 w').mono (fun e w'' q => ⟨_, q.1, rfl, q.2⟩)))
  · intro L a w' hL ho hw hc hd g
    exact km_of hd g (by kernel_rfl) (each_call (f := 51) (args := #[.int .i64 4, .int .i64 4]) (by simp [go_sem]) ((ubp_unsigned 4 4 w').mono (fun e w'' q => ⟨_, q.1, rfl, q.2⟩)))
  · intro L a w' hL ho hw hc hd g
    exact km_of hd g (by kernel_rfl) (each_call (f := 52) (args := #[.int .i64 8, .int .i64 4]) (by simp [go_sem]) ((ubp_signed 8 4 w').mono (fun e w'' q => ⟨_, q.1, rfl, q.2⟩)))
  · intro L a w' hL ho hw hc hd g
    exact km_of hd g (by kernel_rfl) (each_call (f := 51) (args := #[.int .i64 12, .int .i64 2]) (by simp [go_sem]) ((ubp_unsigned 12 2 w').mono (fun e w'' q => ⟨_, q.1, rfl, q.2⟩)))
  · intro L a w' hL ho hw hc hd g
    exact km_of hd g (by kernel_rfl) (each_call (f := 51) (args := #[.int .i64 14, .int .i64 1]) (by simp [go_sem]) ((ubp_unsigned 14 1 w').mono (fun e w'' q => ⟨_, q.1, rfl, q.2⟩)))
  · intro L a w' hL ho hw hc hd g
    exact km_of hd g (by kernel_rfl) (each_call (f := 51) (args := #[.int .i64 15, .int .i64 1]) (by simp [go_sem]) ((ubp_unsigned 15 1 w').mono (fun e w'' q => ⟨_, q.1, rfl, q.2⟩)))
  · intro L a w' hL ho hw hc hd g
    have e53 : a.tmps[53]?.getD undef = .agg #[.int .i64 0, .int .i64 4, .bool false] := hd 56 53 (hw 56 (by kernel_rfl)) (by kernel_rfl)
    have e54 : a.tmps[54]?.getD undef = .agg #[.int .i64 4, .int .i64 4, .bool false] := hd 57 54 (hw 57 (by kernel_rfl)) (by kernel_rfl)
    have e55 : a.tmps[55]?.getD undef = .agg #[.int .i64 8, .int .i64 4, .bool true] := hd 58 55 (hw 58 (by kernel_rfl)) (by kernel_rfl)
    have e56 : a.tmps[56]?.getD undef = .agg #[.int .i64 12, .int .i64 2, .bool false] := hd 59 56 (hw 59 (by kernel_rfl)) (by kernel_rfl)
    have e57 : a.tmps[57]?.getD undef = .agg #[.int .i64 14, .int .i64 1, .bool false] := hd 60 57 (hw 60 (by kernel_rfl)) (by kernel_rfl)
    have e58 : a.tmps[58]?.getD undef = .agg #[.int .i64 15, .int .i64 1, .bool false] := hd 61 58 (hw 61 (by kernel_rfl)) (by kernel_rfl)
    refine km_of hd g (by kernel_rfl) (each_made (v := .slice (some ⟨w'.heap.size, 0, none⟩) 6 6) (w1 := w'.alloc (.cells #[.int .i64 0, .int .i64 4, .bool false, .int .i64 4, .int .i64 4, .bool false, .int .i64 8, .int .i64 4, .bool true, .int .i64 12, .int .i64 2, .bool false, .int .i64 14, .int .i64 1, .bool false, .int .i64 15, .int .i64 1, .bool false] 97)) ?_ ((Grew.refl _).alloc _) ⟨_, _, rfl, by kernel_rfl, heap_alloc_new _ _⟩)
    clear hd hw hc ho
    simp [execOp, go_sem, e53, e54, e55, e56, e57, e58]
  · intro L a w' hL ho hw hc hd g
    obtain ⟨b, n, e1, hn, hb⟩ : KLeft 97 w kRows L (.inr (.inl (fieldCells [0, 4, 4, 4, 8, -4, 12, 2, 14, 1, 15, 1]))) w' (a.tmps[59]?.getD undef) := hd 62 59 (hw 62 (by kernel_rfl)) (by kernel_rfl)
    refine km_of hd g (by kernel_rfl) (each_value (v := .agg #[.int .i64 16, .slice (some ⟨b, 0, none⟩) n n]) ?_ ⟨b, n, rfl, hn, hb⟩)
    clear hd hw hc ho
    simp [execOp, go_sem, e1]
  · intro L a w' hL ho hw hc hd g
    exact km_insert (k := ⟨64, 13, 1, 16, fieldCells [0, 4, 4, 4, 8, -4, 12, 2, 14, 1, 15, 1]⟩) kRows_good (by simp [kRows]) rfl rfl rfl hL hd hc g (by kernel_rfl) rfl (by kernel_rfl) (hd 0 1 (hw 0 (by kernel_rfl)) (by kernel_rfl)) (hd 55 52 (hw 55 (by kernel_rfl)) (by kernel_rfl)) (hd 63 60 (hw 63 (by kernel_rfl)) (by kernel_rfl))
  · intro L a w' hL ho hw hc hd g
    refine km_of hd g (by kernel_rfl) (each_value (v := keyV 5 0) ?_ rfl)
    simp [execOp, go_sem, keyV]
  · intro L a w' hL ho hw hc hd g
    exact km_of hd g (by kernel_rfl) (each_call (f := 51) (args := #[.int .i64 0, .int .i64 1]) (by simp [go_sem]) ((ubp_unsigned 0 1 w').mono (fun e w'' q => ⟨_, q.1, rfl, q.2⟩)))
  · intro L a w' hL ho hw hc hd g
    exact km_of hd g (by kernel_rfl) (each_call (f := 51) (args := #[.int .i64 1, .int .i64 1]) (by simp [go_sem]) ((ubp_unsigned 1 1 w').mono (fun e w'' q => ⟨_, q.1, rfl, q.2⟩)))
  · intro L a w' hL ho hw hc hd g
    have e62 : a.tmps[62]?.getD undef = .agg #[.int .i64 0, .int .i64 1, .bool false] := hd 66 62 (hw 66 (by kernel_rfl)) (by kernel_rfl)
    have e63 : a.tmps[63]?.getD undef = .agg #[.int .i64 1, .int .i64 1, .bool false] := hd 67 63 (hw 67 (by kernel_rfl)) (by kernel_rfl)
    refine km_of hd g (by kernel_rfl) (each_made (v := .slice (some ⟨w'.heap.size, 0, none⟩) 2 2) (w1 := w'.alloc (.cells #[.int .i64 0, .int .i64 1, .bool false, .int .i64 1, .int .i64 1, .bool false] 97)) ?_ ((Grew.refl _).alloc _) ⟨_, _, rfl, by kernel_rfl, heap_alloc_new _ _⟩)
    clear hd hw hc ho
    simp [execOp, go_sem, e62, e63]
  · intro L a w' hL ho hw hc hd g
    obtain ⟨b, n, e1, hn, hb⟩ : KLeft 97 w kRows L (.inr (.inl (fieldCells [0, 1, 1, 1]))) w' (a.tmps[64]?.getD undef) := hd 68 64 (hw 68 (by kernel_rfl)) (by kernel_rfl)
    refine km_of hd g (by kernel_rfl) (each_value (v := .agg #[.int .i64 2, .slice (some ⟨b, 0, none⟩) n n]) ?_ ⟨b, n, rfl, hn, hb⟩)
    clear hd hw hc ho
    simp [execOp, go_sem, e1]
  · intro L a w' hL ho hw hc hd g
    exact km_insert (k := ⟨70, 5, 0, 2, fieldCells [0, 1, 1, 1]⟩) kRows_good (by simp [kRows]) rfl rfl rfl hL hd hc g (by kernel_rfl) rfl (by kernel_rfl) (hd 0 1 (hw 0 (by kernel_rfl)) (by kernel_rfl)) (hd 65 61 (hw 65 (by kernel_rfl)) (by kernel_rfl)) (hd 69 65 (hw 69 (by kernel_rfl)) (by kernel_rfl))
  · intro L a w' hL ho hw hc hd g
    refine km_of hd g (by kernel_rfl) (each_value (v := keyV 5 1) ?_ rfl)
    simp [execOp, go_sem, keyV]
  · intro L a w' hL ho hw hc hd g
    exact km_of hd g (by kernel_rfl) (each_call (f := 51) (args := #[.int .i64 0, .int .i64 1]) (by simp [go_sem]) ((ubp_unsigned 0 1 w').mono (fun e w'' q => ⟨_, q.1, rfl, q.2⟩)))
  · intro L a w' hL ho hw hc hd g
    exact km_of hd g (by kernel_rfl) (each_call (f := 51) (args := #[.int .i64 1, .int .i64 1]) (by simp [go_sem]) ((ubp_unsigned 1 1 w').mono (fun e w'' q => ⟨_, q.1, rfl, q.2⟩)))
  · intro L a w' hL ho hw hc hd g
    have e67 : a.tmps[67]?.getD undef = .agg #[.int .i64 0, .int .i64 1, .bool false] := hd 72 67 (hw 72 (by kernel_rfl)) (by kernel_rfl)
    have e68 : a.tmps[68]?.getD undef = .agg #[.int .i64 1, .int .i64 1, .bool false] := hd 73 68 (hw 73 (by kernel_rfl)) (by kernel_rfl)
    refine km_of hd g (by kernel_rfl) (each_made (v := .slice (some ⟨w'.heap.size, 0, none⟩) 2 2) (w1 := w'.alloc (.cells #[.int .i64 0, .int .i64 1, .bool false, .int .i64 1, .int .i64 1, .bool false] 97)) ?_ ((Grew.refl _).alloc _) ⟨_, _, rfl, by kernel_rfl, heap_alloc_new _ _⟩)
    clear hd hw hc ho
    simp [execOp, go_sem, e67, e68]
  · intro L a w' hL ho hw hc hd g
    obtain ⟨b, n, e1, hn, hb⟩ : KLeft 97 w kRows L (.inr (.inl (fieldCells [0, 1, 1, 1]))) w' (a.tmps[69]?.getD undef) := hd 74 69 (hw 74 (by kernel_rfl)) (by kernel_rfl)
    refine km_of hd g (by kernel_rfl) (each_value (v := .agg #[.int .i64 2, .slice (some ⟨b, 0, none⟩) n n]) ?_ ⟨b, n, rfl, hn, hb⟩)
    clear hd hw hc ho
    simp [execOp, go_sem, e1]
  · intro L a w' hL ho hw hc hd g
    exact km_insert (k := ⟨76, 5, 1, 2, fieldCells [0, 1, 1, 1]⟩) kRows_good (by simp [kRows]) rfl rfl rfl hL hd hc g (by kernel_rfl) rfl (by kernel_rfl) (hd 0 1 (hw 0 (by kernel_rfl)) (by kernel_rfl)) (hd 71 66 (hw 71 (by kernel_rfl)) (by kernel_rfl)) (hd 75 70 (hw 75 (by kernel_rfl)) (by kernel_rfl))
  · intro L a w' hL ho hw hc hd g
    refine km_of hd g (by kernel_rfl) (each_value (v := keyV 6 1) ?_ rfl)
    simp [execOp, go_sem, keyV]
  · intro L a w' hL ho hw hc hd g
    exact km_of hd g (by kernel_rfl) (each_call (f := 51) (args := #[.int .i64 0, .int .i64 1]) (by simp [go_sem]) ((ubp_unsigned 0 1 w').mono (fun e w'' q => ⟨_, q.1, rfl, q.2⟩)))
  · intro L a w' hL ho hw hc hd g
    exact km_of hd g (by kernel_rfl) (each_call (f := 51) (args := #[.int .i64 1, .int .i64 1]) (by simp [go_sem]) ((ubp_unsigned 1 1 w').mono (fun e w'' q => ⟨_, q.1, rfl, q.2⟩)))
  · intro L a w' hL ho hw hc hd g
    exact km_of hd g (by kernel_rfl) (each_call (f := 51) (args := #[.int .i64 2, .int .i64 1]) (by simp [go_sem]) ((ubp_unsigned 2 1 w').mono (fun e w'' q => ⟨_, q.1, rfl, q.2⟩)))
  · intro L a w' hL ho hw hc hd g
    have e72 : a.tmps[72]?.getD undef = .agg #[.int .i64 0, .int .i64 1, .bool false] := hd 78 72 (hw 78 (by kernel_rfl)) (by kernel_rfl)
    have e73 : a.tmps[73]?.getD undef = .agg #[.int .i64 1, .int .i64 1, .bool false] := hd 79 73 (hw 79 (by kernel_rfl)) (by kernel_rfl)
    have e74 : a.tmps[74]?.getD undef = .agg #[.int .i64 2, .int .i64 1, .bool false] := hd 80 74 (hw 80 (by kernel_rfl)) (by kernel_rfl)
    refine km_of hd g (by kernel_rfl) (each_made (v := .slice (some ⟨w'.heap.size, 0, none⟩) 3 3) (w1 := w'.alloc (.cells #[.int .i64 0, .int .i64 1, .bool false, .int .i64 1, .int .i64 1, .bool false, .int .i64 2, .int .i64 1, .bool false] 97)) ?_ ((Grew.refl _).alloc _) ⟨_, _, rfl, by kernel_rfl, heap_alloc_new _ _⟩)
    clear hd hw hc ho
    simp [execOp, go_sem, e72, e73, e74]
  · intro L a w' hL ho hw hc hd g
    obtain ⟨b, n, e1, hn, hb⟩ : KLeft 97 w kRows L (.inr (.inl (fieldCells [0, 1, 1, 1, 2, 1]))) w' (a.tmps[75]?.getD undef) := hd 81 75 (hw 81 (by kernel_rfl)) (by kernel_rfl)
    refine km_of hd g (by kernel_rfl) (each_value (v := .agg #[.int .i64 3, .slice (some ⟨b, 0, none⟩) n n]) ?_ ⟨b, n, rfl, hn, hb⟩)
    clear hd hw hc ho
    simp [execOp, go_sem, e1]
  · intro L a w' hL ho hw hc hd g
    exact km_insert (k := ⟨83, 6, 1, 3, fieldCells [0, 1, 1, 1, 2, 1]⟩) kRows_good (by simp [kRows]) rfl rfl rfl hL hd hc g (by kernel_rfl) rfl (by kernel_rfl) (hd 0 1 (hw 0 (by kernel_rfl)) (by kernel_rfl)) (hd 77 71 (hw 77 (by kernel_rfl)) (by kernel_rfl)) (hd 82 76 (hw 82 (by kernel_rfl)) (by kernel_rfl))
  · intro L a w' hL ho hw hc hd g
    refine km_of hd g (by kernel_rfl) (each_value (v := keyV 6 8) ?_ rfl)
    simp [execOp, go_sem, keyV]
  · intro L a w' hL ho hw hc hd g
    exact km_of hd g (by kernel_rfl) (each_call (f := 51) (args := #[.int .i64 0, .int .i64 2]) (by simp [go_sem]) ((ubp_unsigned 0 2 w').mono (fun e w'' q => ⟨_, q.1, rfl, q.2⟩)))
  · intro L a w' hL ho hw hc hd g
    exact km_of hd g (by kernel_rfl) (each_call (f := 51) (args := #[.int .i64 2, .int .i64 2]) (by simp [go_sem]) ((ubp_unsigned 2 2 w').mono (fun e w'' q => ⟨_, q.1, rfl, q.2⟩)))
  · intro L a w' hL ho hw hc hd g
    exact km_of hd g (by kernel_rfl) (each_call (f := 51) (args := #[.int .i64 4, .int .i64 2]) (by simp [go_sem]) ((ubp_unsigned 4 2 w').mono (fun e w'' q => ⟨_, q.1, rfl, q.2⟩)))
  · intro L a w' hL ho hw hc hd g
    have e78 : a.tmps[78]?.getD undef = .agg #[.int .i64 0, .int .i64 2, .bool false] := hd 85 78 (hw 85 (by kernel_rfl)) (by kernel_rfl)
    have e79 : a.tmps[79]?.getD undef = .agg #[.int .i64 2, .int .i64 2, .bool false] := hd 86 79 (hw 86 (by kernel_rfl)) (by kernel_rfl)
    have e80 : a.tmps[80]?.getD undef = .agg #[.int .i64 4, .int .i64 2, .bool false] := hd 87 80 (hw 87 (by kernel_rfl)) (by kernel_rfl)
    refine km_of hd g (by kernel_rfl) (each_made (v := .slice (some ⟨w'.heap.size, 0, none⟩) 3 3) (w1 := w'.alloc (.cells #[.int .i64 0, .int .i64 2, .bool false, .int .i64 2, .int .i64 2, .bool false, .int .i64 4, .int .i64 2, .bool false] 97)) ?_ ((Grew.refl _).alloc _) ⟨_, _, rfl, by kernel_rfl, heap_alloc_new _ _⟩)
    clear hd hw hc ho
    simp [execOp, go_sem, e78, e79, e80]
  · intro L a w' hL ho hw hc hd g
    obtain ⟨b, n, e1, hn, hb⟩ : KLeft 97 w kRows L (.inr (.inl (fieldCells [0, 2, 2, 2, 4, 2]))) w' (a.tmps[81]?.getD undef) := hd 88 81 (hw 88 (by kernel_rfl)) (by kernel_rfl)
    refine km_of hd g (by kernel_rfl) (each_value (v := .agg #[.int .i64 6, .slice (some ⟨b, 0, none⟩) n n]) ?_ ⟨b, n, rfl, hn, hb⟩)
    clear hd hw hc ho
    simp [execOp, go_sem, e1]
  · intro L a w' hL ho hw hc hd g
    exact km_insert (k := ⟨90, 6, 8, 6, fieldCells [0, 2, 2, 2, 4, 2]⟩) kRows_good (by simp [kRows]) rfl rfl rfl hL hd hc g (by kernel_rfl) rfl (by kernel_rfl) (hd 0 1 (hw 0 (by kernel_rfl)) (by kernel_rfl)) (hd 84 77 (hw 84 (by kernel_rfl)) (by kernel_rfl)) (hd 89 82 (hw 89 (by kernel_rfl)) (by kernel_rfl))
  · intro L a w' hL ho hw hc hd g
    refine km_of hd g (by kernel_rfl) (each_value (v := keyV 6 49) ?_ rfl)
    simp [execOp, go_sem, keyV]
  · intro L a w' hL ho hw hc hd g
    exact km_of hd g (by kernel_rfl) (each_call (f := 51) (args := #[.int .i64 0, .int .i64 1]) (by simp [go_sem]) ((ubp_unsigned 0 1 w').mono (fun e w'' q => ⟨_, q.1, rfl, q.2⟩)))
  · intro L a w' hL ho hw hc hd g
    exact km_of hd g (by kernel_rfl) (each_call (f := 52) (args := #[.int .i64 4, .int .i64 2]) (by simp [go_sem]) ((ubp_signed 4 2 w').mono (fun e w'' q => ⟨_, q.1, rfl, q.2⟩)))
  · intro L a w' hL ho hw hc hd g
    exact km_of hd g (by kernel_rfl) (each_call (f := 51) (args := #[.int .i64 8, .int .i64 4]) (by simp [go_sem]) ((ubp_unsigned 8 4 w').mono (fun e w'' q => ⟨_, q.1, rfl, q.2⟩)))
  · intro L a w' hL ho hw hc hd g
    exact km_of hd g (by kernel_rfl) (each_call (f := 51) (args := #[.int .i64 16, .int .i64 4]) (by simp [go_sem]) ((ubp_unsigned 16 4 w').mono (fun e w'' q => ⟨_, q.1, rfl, q.2⟩)))
  · intro L a w' hL ho hw hc hd g
    exact km_of hd g (by kernel_rfl) (each_call (f := 51) (args := #[.int .i64 28, .int .i64 4]) (by simp [go_sem]) ((ubp_unsigned 28 4 w').mono (fun e w'' q => ⟨_, q.1, rfl, q.2⟩)))
  · intro L a w' hL ho hw hc hd g
    have e84 : a.tmps[84]?.getD undef = .agg #[.int .i64 0, .int .i64 1, .bool false] := hd 92 84 (hw 92 (by kernel_rfl)) (by kernel_rfl)
    have e85 : a.tmps[85]?.getD undef = .agg #[.int .i64 4, .int .i64 2, .bool true] := hd 93 85 (hw 93 (by kernel_rfl)) (by kernel_rfl)
    have e86 : a.tmps[86]?.getD undef = .agg #[.int .i64 8, .int .i64 4, .bool false] := hd 94 86 (hw 94 (by kernel_rfl)) (by kernel_rfl)
    have e87 : a.tmps[87]?.getD undef = .agg #[.int .i64 16, .int .i64 4, .bool false] := hd 95 87 (hw 95 (by kernel_rfl)) (by kernel_rfl)
    have e88 : a.tmps[88]?.getD undef = .agg #[.int .i64 28, .int .i64 4, .bool false] := hd 96 88 (hw 96 (by kernel_rfl)) (by kernel_rfl)
    refine km_of hd g (by kernel_rfl) (each_made (v := .slice (some ⟨w'.heap.size, 0, none⟩) 5 5) (w1 := w'.alloc (.cells #[.int .i64 0, .int .i64 1, .bool false, .int .i64 4, .int .i64 2, .bool true, .int .i64 8, .int .i64 4, .bool false, .int .i64 16, .int .i64 4, .bool false, .int .i64 28, .int .i64 4, .bool false] 97)) ?_ ((Grew.refl _).alloc _) ⟨_, _, rfl, by kernel_rfl, heap_alloc_new _ _⟩)
    clear hd hw hc ho
    simp [execOp, go_sem, e84, e85, e86, e87, e88]
  · intro L a w' hL ho hw hc hd g
    obtain ⟨b, n, e1, hn, hb⟩ : KLeft 97 w kRows L (.inr (.inl (fieldCells [0, 1, 4, -2, 8, 4, 16, 4, 28, 4]))) w' (a.tmps[89]?.getD undef) := hd 97 89 (hw 97 (by kernel_rfl)) (by kernel_rfl)
    refine km_of hd g (by kernel_rfl) (each_value (v := .agg #[.int .i64 32, .slice (some ⟨b, 0, none⟩) n n]) ?_ ⟨b, n, rfl, hn, hb⟩)
    clear hd hw hc ho
    simp [execOp, go_sem, e1]
  · intro L a w' hL ho hw hc hd g
    exact km_insert (k := ⟨99, 6, 49, 32, fieldCells [0, 1, 4, -2, 8, 4, 16, 4, 28, 4]⟩) kRows_good (by simp [kRows]) rfl rfl rfl hL hd hc g (by kernel_rfl) rfl (by kernel_rfl) (hd 0 1 (hw 0 (by kernel_rfl)) (by kernel_rfl)) (hd 91 83 (hw 91 (by kernel_rfl)) (by kernel_rfl)) (hd 98 90 (hw 98 (by kernel_rfl)) (by kernel_rfl))
  · intro L a w' hL ho hw hc hd g
    obtain ⟨m, e1, hm⟩ : KLeft 97 w kRows L (.inr (.inr (.inr ()))) w' (a.tmps[1]?.getD undef) := hd 0 1 (hw 0 (by kernel_rfl)) (by kernel_rfl)
    refine km_of hd g (by kernel_rfl) (each_value (v := .map (some m)) ?_ ⟨m, rfl, hm.also (Grew.refl _) (fun k hk => by have := List.all_eq_true.1 (show kRows.all (fun k => k.at_ != 100) = true by kernel_rfl) k hk; simpa using this)⟩)
    clear hd hw hc ho
    simp [execOp, go_sem, e1]
  · intro L a w' hL ho hw hc hd g
    obtain ⟨m, e1, hm⟩ : KLeft 97 w kRows L (.inr (.inr (.inr ()))) w' (a.tmps[91]?.getD undef) := hd 100 91 (hw 100 (by kernel_rfl)) (by kernel_rfl)
    refine km_of hd g (by kernel_rfl) (each_value (v := .map (some m)) ?_ ⟨m, rfl, hm.also (Grew.refl _) (fun k hk => by have := List.all_eq_true.1 (show kRows.all (fun k => k.at_ != 101) = true by kernel_rfl) k hk; simpa using this)⟩)
    clear hd hw hc ho
    simp [execOp, go_sem, e1]
end Go.Proofs.Ytcdmbnbanopioaa

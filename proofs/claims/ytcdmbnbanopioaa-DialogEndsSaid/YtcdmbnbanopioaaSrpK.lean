/-
  The program's table of SiRF kinds: the map that sirf.kinds makes, in whatever order its entries come up.
-/
import Derived.Test.YtcdmbnbanopioaaSrpM
import Derived.Test.YtcdmbnbanopioaaLocO
import Derived.Deep.CutBlock
import Derived.Deep.DeepCutAuto
namespace Go.Proofs.Ytcdmbnbanopioaa
open Go.RowKit
set_option linter.unusedVariables false

/-- The cells of a kind's fields. -/
def sfCells : List Int → List Value
  | p :: s :: r => .int .i64 p :: .int .i64 (s.natAbs : Nat) :: .bool (decide (s < 0)) :: sfCells r
  | _ => []
def sopsAt (n : Nat) : Code → Array Oper
  | .region k ops _ => if k = n then ops else #[]
  | .seq a b => sopsAt n a ++ sopsAt n b
  | _ => #[]
noncomputable def sOps : Array Oper := (Try.f45.body.map (sopsAt 1)).getD #[]
noncomputable def sRows : List KRow := [⟨15, 2, 0, 41, sfCells [1, -4, 5, -4, 9, -4, 13, -2, 15, -2, 17, -2, 19, 1, 20, 1, 21, 1, 22, 2, 24, 4, 28, 1]⟩,
  ⟨21, 4, 0, 188, sfCells [1, -2, 3, 4, 7, 1]⟩,
  ⟨30, 7, 0, 20, sfCells [1, 2, 3, 4, 7, 1, 8, 4, 12, 4, 16, 4]⟩,
  ⟨43, 41, 0, 91, sfCells [1, 2, 3, 2, 5, 2, 7, 4, 11, 2, 13, 1, 14, 1, 15, 1, 16, 1, 17, 2]⟩,
  ⟨55, 52, 0, 19, sfCells [1, 1, 2, 1, 3, 1, 4, 1, 5, 1, 6, 2, 8, -2, 10, 4, 14, 1]⟩,
  ⟨59, 11, 0, 2, sfCells [1, 1]⟩,
  ⟨63, 12, 0, 2, sfCells [1, 1]⟩,
  ⟨69, 166, 0, 8, sfCells [1, 1, 2, 1, 3, 1]⟩]
theorem sRows_good : SGood sRows := by
  constructor <;> (unfold sRows; simp)
set_option maxHeartbeats 1000000 in
theorem srp_unsigned (p n : Int) (w : World) : Calls Try.prog 55 #[.int .i64 p, .int .i64 n] w fun e w' => e = .returned (.agg #[.int .i64 p, .int .i64 n, .bool false]) ∧ Grew w w' := by
  go_enter Try.func55, Try.ntmps55
  go_wp2_with fail
  refine bodyPost_ret (by simp [results, Try.results55, go_sem]; try rfl) rfl ?_
  exact ⟨rfl, (Grew.refl w).alloc _⟩
set_option maxHeartbeats 1000000 in
theorem srp_signed (p n : Int) (w : World) : Calls Try.prog 54 #[.int .i64 p, .int .i64 n] w fun e w' => e = .returned (.agg #[.int .i64 p, .int .i64 n, .bool true]) ∧ Grew w w' := by
  go_enter Try.func54, Try.ntmps54
  go_wp2_with fail
  refine bodyPost_ret (by simp [results, Try.results54, go_sem]; try rfl) rfl ?_
  exact ⟨rfl, (Grew.refl w).alloc _⟩
set_option maxHeartbeats 1000000 in
theorem srp_kind (n : Int) (A : Option Addr) (l c : Nat) (w : World) : Calls Try.prog 53 #[.int .i64 n, .slice A l c] w fun e w' => e = .returned (.agg #[.int .i64 n, .slice A l c]) ∧ Grew w w' := by
  go_enter Try.func53, Try.ntmps53
  go_wp2_with fail
  refine bodyPost_ret (by simp [results, Try.results53, go_sem]; try rfl) rfl ?_
  exact ⟨rfl, (Grew.refl w).alloc _⟩
/-- The table as it stands. -/
def SKindsAt (w : World) (v : Value) : Prop :=
  ∃ m es clk, v = .map (some m) ∧ w.heap[m]? = some (.map es clk) ∧ (∀ e ∈ es.toList, ∃ k ∈ sRows, SEntry 106 w k e) ∧ (∀ k ∈ sRows, ∃ e ∈ es.toList, SEntry 106 w k e)
noncomputable def sShapes : List KShape := [.inr (.inr (.inr ())),
  .inl (.agg #[.int .i64 1, .int .i64 4, .bool true]),
  .inl (.agg #[.int .i64 5, .int .i64 4, .bool true]),
  .inl (.agg #[.int .i64 9, .int .i64 4, .bool true]),
  .inl (.agg #[.int .i64 13, .int .i64 2, .bool true]),
  .inl (.agg #[.int .i64 15, .int .i64 2, .bool true]),
  .inl (.agg #[.int .i64 17, .int .i64 2, .bool true]),
  .inl (.agg #[.int .i64 19, .int .i64 1, .bool false]),
  .inl (.agg #[.int .i64 20, .int .i64 1, .bool false]),
  .inl (.agg #[.int .i64 21, .int .i64 1, .bool false]),
  .inl (.agg #[.int .i64 22, .int .i64 2, .bool false]),
  .inl (.agg #[.int .i64 24, .int .i64 4, .bool false]),
  .inl (.agg #[.int .i64 28, .int .i64 1, .bool false]),
  .inr (.inl (sfCells [1, -4, 5, -4, 9, -4, 13, -2, 15, -2, 17, -2, 19, 1, 20, 1, 21, 1, 22, 2, 24, 4, 28, 1])),
  .inr (.inr (.inl (41, sfCells [1, -4, 5, -4, 9, -4, 13, -2, 15, -2, 17, -2, 19, 1, 20, 1, 21, 1, 22, 2, 24, 4, 28, 1]))),
  .inl undef,
  .inl (.agg #[.int .i64 1, .int .i64 2, .bool true]),
  .inl (.agg #[.int .i64 3, .int .i64 4, .bool false]),
  .inl (.agg #[.int .i64 7, .int .i64 1, .bool false]),
  .inr (.inl (sfCells [1, -2, 3, 4, 7, 1])),
  .inr (.inr (.inl (188, sfCells [1, -2, 3, 4, 7, 1]))),
  .inl undef,
  .inl (.agg #[.int .i64 1, .int .i64 2, .bool false]),
  .inl (.agg #[.int .i64 3, .int .i64 4, .bool false]),
  .inl (.agg #[.int .i64 7, .int .i64 1, .bool false]),
  .inl (.agg #[.int .i64 8, .int .i64 4, .bool false]),
  .inl (.agg #[.int .i64 12, .int .i64 4, .bool false]),
  .inl (.agg #[.int .i64 16, .int .i64 4, .bool false]),
  .inr (.inl (sfCells [1, 2, 3, 4, 7, 1, 8, 4, 12, 4, 16, 4])),
  .inr (.inr (.inl (20, sfCells [1, 2, 3, 4, 7, 1, 8, 4, 12, 4, 16, 4]))),
  .inl undef,
  .inl (.agg #[.int .i64 1, .int .i64 2, .bool false]),
  .inl (.agg #[.int .i64 3, .int .i64 2, .bool false]),
  .inl (.agg #[.int .i64 5, .int .i64 2, .bool false]),
  .inl (.agg #[.int .i64 7, .int .i64 4, .bool false]),
  .inl (.agg #[.int .i64 11, .int .i64 2, .bool false]),
  .inl (.agg #[.int .i64 13, .int .i64 1, .bool false]),
  .inl (.agg #[.int .i64 14, .int .i64 1, .bool false]),
  .inl (.agg #[.int .i64 15, .int .i64 1, .bool false]),
  .inl (.agg #[.int .i64 16, .int .i64 1, .bool false]),
  .inl (.agg #[.int .i64 17, .int .i64 2, .bool false]),
  .inr (.inl (sfCells [1, 2, 3, 2, 5, 2, 7, 4, 11, 2, 13, 1, 14, 1, 15, 1, 16, 1, 17, 2])),
  .inr (.inr (.inl (91, sfCells [1, 2, 3, 2, 5, 2, 7, 4, 11, 2, 13, 1, 14, 1, 15, 1, 16, 1, 17, 2]))),
  .inl undef,
  .inl (.agg #[.int .i64 1, .int .i64 1, .bool false]),
  .inl (.agg #[.int .i64 2, .int .i64 1, .bool false]),
  .inl (.agg #[.int .i64 3, .int .i64 1, .bool false]),
  .inl (.agg #[.int .i64 4, .int .i64 1, .bool false]),
  .inl (.agg #[.int .i64 5, .int .i64 1, .bool false]),
  .inl (.agg #[.int .i64 6, .int .i64 2, .bool false]),
  .inl (.agg #[.int .i64 8, .int .i64 2, .bool true]),
  .inl (.agg #[.int .i64 10, .int .i64 4, .bool false]),
  .inl (.agg #[.int .i64 14, .int .i64 1, .bool false]),
  .inr (.inl (sfCells [1, 1, 2, 1, 3, 1, 4, 1, 5, 1, 6, 2, 8, -2, 10, 4, 14, 1])),
  .inr (.inr (.inl (19, sfCells [1, 1, 2, 1, 3, 1, 4, 1, 5, 1, 6, 2, 8, -2, 10, 4, 14, 1]))),
  .inl undef,
  .inl (.agg #[.int .i64 1, .int .i64 1, .bool false]),
  .inr (.inl (sfCells [1, 1])),
  .inr (.inr (.inl (2, sfCells [1, 1]))),
  .inl undef,
  .inl (.agg #[.int .i64 1, .int .i64 1, .bool false]),
  .inr (.inl (sfCells [1, 1])),
  .inr (.inr (.inl (2, sfCells [1, 1]))),
  .inl undef,
  .inl (.agg #[.int .i64 1, .int .i64 1, .bool false]),
  .inl (.agg #[.int .i64 2, .int .i64 1, .bool false]),
  .inl (.agg #[.int .i64 3, .int .i64 1, .bool false]),
  .inr (.inl (sfCells [1, 1, 2, 1, 3, 1])),
  .inr (.inr (.inl (8, sfCells [1, 1, 2, 1, 3, 1]))),
  .inl undef,
  .inr (.inr (.inr ())),
  .inr (.inr (.inr ()))]
set_option maxRecDepth 1000000 in
set_option maxHeartbeats 8000000 in
theorem srp_kinds (w : World) : Calls Try.prog 45 #[] w fun e w' => ∃ v, e = .returned v ∧ SKindsAt w' v ∧ Grew w w' := by
  go_enter Try.func45, Try.ntmps45
  go_upto_region 1 with fail
  refine wp_region_fillW (n := 64) (ops := sOps) ?_ (fun L i w' v => SLeft 106 w sRows L (sShapes.getD i (.inl undef)) w' v) ?_ ?_ ?_ ?_
  case refine_1 => kernel_rfl
  case refine_2 => kernel_rfl
  case refine_3 => rfl
  case refine_5 =>
    intro L a w' hL hdef hsz ho hd g
    obtain ⟨m, e1, hWm, es, clk, hb, h1, h2⟩ : SLeft 106 w sRows L (.inr (.inr (.inr ()))) w' (a.tmps[0]?.getD undef) := hd 71 0 (by kernel_rfl)
    go_wp2_with fail
    refine bodyPost_ret (v := .map (some m)) (by simp [results, Try.results45, go_sem, e1]; try rfl) hdef ?_
    exact ⟨_, rfl, ⟨m, es, clk, rfl, hb, fun e he => (by obtain ⟨k, hk, _, hx⟩ := h1 e he; exact ⟨k, hk, hx⟩), fun k hk => h2 k hk (hL _ (by have := List.all_eq_true.1 (show sRows.all (fun k => decide (k.at_ < sOps.size)) = true by kernel_rfl) k hk; simpa using this))⟩, g⟩
  simp only [AllFrom, List.append]
  refine ⟨?_, ?_, ?_, ?_, ?_, ?_, ?_, ?_, ?_, ?_, ?_, ?_, ?_, ?_, ?_, ?_, ?_, ?_, ?_, ?_, ?_, ?_, ?_, ?_, ?_, ?_, ?_, ?_, ?_, ?_, ?_, ?_, ?_, ?_, ?_, ?_, ?_, ?_, ?_, ?_, ?_, ?_, ?_, ?_, ?_, ?_, ?_, ?_, ?_, ?_, ?_, ?_, ?_, ?_, ?_, ?_, ?_, ?_, ?_, ?_, ?_, ?_, ?_, ?_, ?_, ?_, ?_, ?_, ?_, ?_, ?_, ?_, trivial⟩
  · intro L a w' hL ho hw hc hd g
    refine sm_of hd g (by kernel_rfl) ?_
    refine each_made (v := .map (some w'.heap.size)) (w1 := w'.alloc (.map #[] 0)) ?_ ((Grew.refl _).alloc _) ⟨_, rfl, g.size, #[], 0, heap_alloc_new _ _, fun e he => (by simp at he), fun k hk hl => ?_⟩
    · simp [execOp, go_sem, run_makeMap]
    · exfalso
      have hl2 : L k.at_ = true := by rw [also_ne (by have := List.all_eq_true.1 (show sRows.all (fun k => k.at_ != 0) = true by kernel_rfl) k hk; simpa using this)] at hl; exact hl
      have := hc k.at_ 0 hl2 (by have := List.all_eq_true.1 (show sRows.all (fun k => waitsAt sOps k.at_ 0) = true by kernel_rfl) k hk; simpa using this)
      rw [hL] at this
      cases this
  · intro L a w' hL ho hw hc hd g
    exact sm_of hd g (by kernel_rfl) (each_call (f := 54) (args := #[.int .i64 1, .int .i64 4]) (by simp [go_sem]) ((srp_signed 1 4 w').mono (fun e w'' q => ⟨_, q.1, rfl, q.2⟩)))
  · intro L a w' hL ho hw hc hd g
    exact sm_of hd g (by kernel_rfl) (each_call (f := 54) (args := #[.int .i64 5, .int .i64 4]) (by simp [go_sem]) ((srp_signed 5 4 w').mono (fun e w'' q => ⟨_, q.1, rfl, q.2⟩)))
  · intro L a w' hL ho hw hc hd g
    exact sm_of hd g (by kernel_rfl) (each_call (f := 54) (args := #[.int .i64 9, .int .i64 4]) (by simp [go_sem]) ((srp_signed 9 4 w').mono (fun e w'' q => ⟨_, q.1, rfl, q.2⟩)))
  · intro L a w' hL ho hw hc hd g
    exact sm_of hd g (by kernel_rfl) (each_call (f := 54) (args := #[.int .i64 13, .int .i64 2]) (by simp [go_sem]) ((srp_signed 13 2 w').mono (fun e w'' q => ⟨_, q.1, rfl, q.2⟩)))
  · intro L a w' hL ho hw hc hd g
    exact sm_of hd g (by kernel_rfl) (each_call (f := 54) (args := #[.int .i64 15, .int .i64 2]) (by simp [go_sem]) ((srp_signed 15 2 w').mono (fun e w'' q => ⟨_, q.1, rfl, q.2⟩)))
  · intro L a w' hL ho hw hc hd g
    exact sm_of hd g (by kernel_rfl) (each_call (f := 54) (args := #[.int .i64 17, .int .i64 2]) (by simp [go_sem]) ((srp_signed 17 2 w').mono (fun e w'' q => ⟨_, q.1, rfl, q.2⟩)))
  · intro L a w' hL ho hw hc hd g
    exact sm_of hd g (by kernel_rfl) (each_call (f := 55) (args := #[.int .i64 19, .int .i64 1]) (by simp [go_sem]) ((srp_unsigned 19 1 w').mono (fun e w'' q => ⟨_, q.1, rfl, q.2⟩)))
  · intro L a w' hL ho hw hc hd g
    exact sm_of hd g (by kernel_rfl) (each_call (f := 55) (args := #[.int .i64 20, .int .i64 1]) (by simp [go_sem]) ((srp_unsigned 20 1 w').mono (fun e w'' q => ⟨_, q.1, rfl, q.2⟩)))
  · intro L a w' hL ho hw hc hd g
    exact sm_of hd g (by kernel_rfl) (each_call (f := 55) (args := #[.int .i64 21, .int .i64 1]) (by simp [go_sem]) ((srp_unsigned 21 1 w').mono (fun e w'' q => ⟨_, q.1, rfl, q.2⟩)))
  · intro L a w' hL ho hw hc hd g
    exact sm_of hd g (by kernel_rfl) (each_call (f := 55) (args := #[.int .i64 22, .int .i64 2]) (by simp [go_sem]) ((srp_unsigned 22 2 w').mono (fun e w'' q => ⟨_, q.1, rfl, q.2⟩)))
  · intro L a w' hL ho hw hc hd g
    exact sm_of hd g (by kernel_rfl) (each_call (f := 55) (args := #[.int .i64 24, .int .i64 4]) (by simp [go_sem]) ((srp_unsigned 24 4 w').mono (fun e w'' q => ⟨_, q.1, rfl, q.2⟩)))
  · intro L a w' hL ho hw hc hd g
    exact sm_of hd g (by kernel_rfl) (each_call (f := 55) (args := #[.int .i64 28, .int .i64 1]) (by simp [go_sem]) ((srp_unsigned 28 1 w').mono (fun e w'' q => ⟨_, q.1, rfl, q.2⟩)))
  · intro L a w' hL ho hw hc hd g
    have e2 : a.tmps[2]?.getD undef = .agg #[.int .i64 1, .int .i64 4, .bool true] := hd 1 2 (hw 1 (by kernel_rfl)) (by kernel_rfl)
    have e3 : a.tmps[3]?.getD undef = .agg #[.int .i64 5, .int .i64 4, .bool true] := hd 2 3 (hw 2 (by kernel_rfl)) (by kernel_rfl)
    have e4 : a.tmps[4]?.getD undef = .agg #[.int .i64 9, .int .i64 4, .bool true] := hd 3 4 (hw 3 (by kernel_rfl)) (by kernel_rfl)
    have e5 : a.tmps[5]?.getD undef = .agg #[.int .i64 13, .int .i64 2, .bool true] := hd 4 5 (hw 4 (by kernel_rfl)) (by kernel_rfl)
    have e6 : a.tmps[6]?.getD undef = .agg #[.int .i64 15, .int .i64 2, .bool true] := hd 5 6 (hw 5 (by kernel_rfl)) (by kernel_rfl)
    have e7 : a.tmps[7]?.getD undef = .agg #[.int .i64 17, .int .i64 2, .bool true] := hd 6 7 (hw 6 (by kernel_rfl)) (by kernel_rfl)
    have e8 : a.tmps[8]?.getD undef = .agg #[.int .i64 19, .int .i64 1, .bool false] := hd 7 8 (hw 7 (by kernel_rfl)) (by kernel_rfl)
    have e9 : a.tmps[9]?.getD undef = .agg #[.int .i64 20, .int .i64 1, .bool false] := hd 8 9 (hw 8 (by kernel_rfl)) (by kernel_rfl)
    have e10 : a.tmps[10]?.getD undef = .agg #[.int .i64 21, .int .i64 1, .bool false] := hd 9 10 (hw 9 (by kernel_rfl)) (by kernel_rfl)
    have e11 : a.tmps[11]?.getD undef = .agg #[.int .i64 22, .int .i64 2, .bool false] := hd 10 11 (hw 10 (by kernel_rfl)) (by kernel_rfl)
    have e12 : a.tmps[12]?.getD undef = .agg #[.int .i64 24, .int .i64 4, .bool false] := hd 11 12 (hw 11 (by kernel_rfl)) (by kernel_rfl)
    have e13 : a.tmps[13]?.getD undef = .agg #[.int .i64 28, .int .i64 1, .bool false] := hd 12 13 (hw 12 (by kernel_rfl)) (by kernel_rfl)
    refine sm_of hd g (by kernel_rfl) (each_made (v := .slice (some ⟨w'.heap.size, 0, none⟩) 12 12) (w1 := w'.alloc (.cells #[.int .i64 1, .int .i64 4, .bool true, .int .i64 5, .int .i64 4, .bool true, .int .i64 9, .int .i64 4, .bool true, .int .i64 13, .int .i64 2, .bool true, .int .i64 15, .int .i64 2, .bool true, .int .i64 17, .int .i64 2, .bool true, .int .i64 19, .int .i64 1, .bool false, .int .i64 20, .int .i64 1, .bool false, .int .i64 21, .int .i64 1, .bool false, .int .i64 22, .int .i64 2, .bool false, .int .i64 24, .int .i64 4, .bool false, .int .i64 28, .int .i64 1, .bool false] 106)) ?_ ((Grew.refl _).alloc _) ⟨_, _, rfl, by kernel_rfl, heap_alloc_new _ _⟩)
    clear hd hw hc ho
    simp [execOp, go_sem, e2, e3, e4, e5, e6, e7, e8, e9, e10, e11, e12, e13]
  · intro L a w' hL ho hw hc hd g
    obtain ⟨b, n, e1, hn, hb⟩ : SLeft 106 w sRows L (.inr (.inl (sfCells [1, -4, 5, -4, 9, -4, 13, -2, 15, -2, 17, -2, 19, 1, 20, 1, 21, 1, 22, 2, 24, 4, 28, 1]))) w' (a.tmps[14]?.getD undef) := hd 13 14 (hw 13 (by kernel_rfl)) (by kernel_rfl)
    refine sm_of hd g (by kernel_rfl) (each_call (f := 53) (args := #[.int .i64 41, .slice (some ⟨b, 0, none⟩) n n]) ?_ ((srp_kind 41 (some ⟨b, 0, none⟩) n n w').mono (fun e w'' q => ⟨_, q.1, ⟨b, n, rfl, hn, KKept.of_grew q.2 _ _ _ _ hb⟩, q.2⟩)))
    clear hd hw hc ho
    simp [go_sem, e1]
  · intro L a w' hL ho hw hc hd g
    exact sm_insert (k := ⟨15, 2, 0, 41, sfCells [1, -4, 5, -4, 9, -4, 13, -2, 15, -2, 17, -2, 19, 1, 20, 1, 21, 1, 22, 2, 24, 4, 28, 1]⟩) sRows_good (by simp [sRows]) rfl rfl rfl hL hd hc g (by kernel_rfl) rfl (by kernel_rfl) (hd 0 1 (hw 0 (by kernel_rfl)) (by kernel_rfl)) (hd 14 15 (hw 14 (by kernel_rfl)) (by kernel_rfl))
  · intro L a w' hL ho hw hc hd g
    exact sm_of hd g (by kernel_rfl) (each_call (f := 54) (args := #[.int .i64 1, .int .i64 2]) (by simp [go_sem]) ((srp_signed 1 2 w').mono (fun e w'' q => ⟨_, q.1, rfl, q.2⟩)))
  · intro L a w' hL ho hw hc hd g
    exact sm_of hd g (by kernel_rfl) (each_call (f := 55) (args := #[.int .i64 3, .int .i64 4]) (by simp [go_sem]) ((srp_unsigned 3 4 w').mono (fun e w'' q => ⟨_, q.1, rfl, q.2⟩)))
  · intro L a w' hL ho hw hc hd g
    exact sm_of hd g (by kernel_rfl) (each_call (f := 55) (args := #[.int .i64 7, .int .i64 1]) (by simp [go_sem]) ((srp_unsigned 7 1 w').mono (fun e w'' q => ⟨_, q.1, rfl, q.2⟩)))
  · intro L a w' hL ho hw hc hd g
    have e16 : a.tmps[16]?.getD undef = .agg #[.int .i64 1, .int .i64 2, .bool true] := hd 16 16 (hw 16 (by kernel_rfl)) (by kernel_rfl)
    have e17 : a.tmps[17]?.getD undef = .agg #[.int .i64 3, .int .i64 4, .bool false] := hd 17 17 (hw 17 (by kernel_rfl)) (by kernel_rfl)
    have e18 : a.tmps[18]?.getD undef = .agg #[.int .i64 7, .int .i64 1, .bool false] := hd 18 18 (hw 18 (by kernel_rfl)) (by kernel_rfl)
    refine sm_of hd g (by kernel_rfl) (each_made (v := .slice (some ⟨w'.heap.size, 0, none⟩) 3 3) (w1 := w'.alloc (.cells #[.int .i64 1, .int .i64 2, .bool true, .int .i64 3, .int .i64 4, .bool false, .int .i64 7, .int .i64 1, .bool false] 106)) ?_ ((Grew.refl _).alloc _) ⟨_, _, rfl, by kernel_rfl, heap_alloc_new _ _⟩)
    clear hd hw hc ho
    simp [execOp, go_sem, e16, e17, e18]
  · intro L a w' hL ho hw hc hd g
    obtain ⟨b, n, e1, hn, hb⟩ : SLeft 106 w sRows L (.inr (.inl (sfCells [1, -2, 3, 4, 7, 1]))) w' (a.tmps[19]?.getD undef) := hd 19 19 (hw 19 (by kernel_rfl)) (by kernel_rfl)
    refine sm_of hd g (by kernel_rfl) (each_call (f := 53) (args := #[.int .i64 188, .slice (some ⟨b, 0, none⟩) n n]) ?_ ((srp_kind 188 (some ⟨b, 0, none⟩) n n w').mono (fun e w'' q => ⟨_, q.1, ⟨b, n, rfl, hn, KKept.of_grew q.2 _ _ _ _ hb⟩, q.2⟩)))
    clear hd hw hc ho
    simp [go_sem, e1]
  · intro L a w' hL ho hw hc hd g
    exact sm_insert (k := ⟨21, 4, 0, 188, sfCells [1, -2, 3, 4, 7, 1]⟩) sRows_good (by simp [sRows]) rfl rfl rfl hL hd hc g (by kernel_rfl) rfl (by kernel_rfl) (hd 0 1 (hw 0 (by kernel_rfl)) (by kernel_rfl)) (hd 20 20 (hw 20 (by kernel_rfl)) (by kernel_rfl))
  · intro L a w' hL ho hw hc hd g
    exact sm_of hd g (by kernel_rfl) (each_call (f := 55) (args := #[.int .i64 1, .int .i64 2]) (by simp [go_sem]) ((srp_unsigned 1 2 w').mono (fun e w'' q => ⟨_, q.1, rfl, q.2⟩)))
  · intro L a w' hL ho hw hc hd g
    exact sm_of hd g (by kernel_rfl) (each_call (f := 55) (args := #[.int .i64 3, .int .i64 4]) (by simp [go_sem]) ((srp_unsigned 3 4 w').mono (fun e w'' q => ⟨_, q.1, rfl, q.2⟩)))
  · intro L a w' hL ho hw hc hd g
    exact sm_of hd g (by kernel_rfl) (each_call (f := 55) (args := #[.int .i64 7, .int .i64 1]) (by simp [go_sem]) ((srp_unsigned 7 1 w').mono (fun e w'' q => ⟨_, q.1, rfl, q.2⟩)))
  · intro L a w' hL ho hw hc hd g
    exact sm_of hd g (by kernel_rfl) (each_call (f := 55) (args := #[.int .i64 8, .int .i64 4]) (by simp [go_sem]) ((srp_unsigned 8 4 w').mono (fun e w'' q => ⟨_, q.1, rfl, q.2⟩)))
  · intro L a w' hL ho hw hc hd g
    exact sm_of hd g (by kernel_rfl) (each_call (f := 55) (args := #[.int .i64 12, .int .i64 4]) (by simp [go_sem]) ((srp_unsigned 12 4 w').mono (fun e w'' q => ⟨_, q.1, rfl, q.2⟩)))
  · intro L a w' hL ho hw hc hd g
    exact sm_of hd g (by kernel_rfl) (each_call (f := 55) (args := #[.int .i64 16, .int .i64 4]) (by simp [go_sem]) ((srp_unsigned 16 4 w').mono (fun e w'' q => ⟨_, q.1, rfl, q.2⟩)))
  · intro L a w' hL ho hw hc hd g
    have e21 : a.tmps[21]?.getD undef = .agg #[.int .i64 1, .int .i64 2, .bool false] := hd 22 21 (hw 22 (by kernel_rfl)) (by kernel_rfl)
    have e22 : a.tmps[22]?.getD undef = .agg #[.int .i64 3, .int .i64 4, .bool false] := hd 23 22 (hw 23 (by kernel_rfl)) (by kernel_rfl)
    have e23 : a.tmps[23]?.getD undef = .agg #[.int .i64 7, .int .i64 1, .bool false] := hd 24 23 (hw 24 (by kernel_rfl)) (by kernel_rfl)
    have e24 : a.tmps[24]?.getD undef = .agg #[.int .i64 8, .int .i64 4, .bool false] := hd 25 24 (hw 25 (by kernel_rfl)) (by kernel_rfl)
    have e25 : a.tmps[25]?.getD undef = .agg #[.int .i64 12, .int .i64 4, .bool false] := hd 26 25 (hw 26 (by kernel_rfl)) (by kernel_rfl)
    have e26 : a.tmps[26]?.getD undef = .agg #[.int .i64 16, .int .i64 4, .bool false] := hd 27 26 (hw 27 (by kernel_rfl)) (by kernel_rfl)
    refine sm_of hd g (by kernel_rfl) (each_made (v := .slice (some ⟨w'.heap.size, 0, none⟩) 6 6) (w1 := w'.alloc (.cells #[.int .i64 1, .int .i64 2, .bool false, .int .i64 3, .int .i64 4, .bool false, .int .i64 7, .int .i64 1, .bool false, .int .i64 8, .int .i64 4, .bool false, .int .i64 12, .int .i64 4, .bool false, .int .i64 16, .int .i64 4, .bool false] 106)) ?_ ((Grew.refl _).alloc _) ⟨_, _, rfl, by kernel_rfl, heap_alloc_new _ _⟩)
    clear hd hw hc ho
    simp [execOp, go_sem, e21, e22, e23, e24, e25, e26]
  · intro L a w' hL ho hw hc hd g
    obtain ⟨b, n, e1, hn, hb⟩ : SLeft 106 w sRows L (.inr (.inl (sfCells [1, 2, 3, 4, 7, 1, 8, 4, 12, 4, 16, 4]))) w' (a.tmps[27]?.getD undef) := hd 28 27 (hw 28 (by kernel_rfl)) (by kernel_rfl)
    refine sm_of hd g (by kernel_rfl) (each_call (f := 53) (args := #[.int .i64 20, .slice (some ⟨b, 0, none⟩) n n]) ?_ ((srp_kind 20 (some ⟨b, 0, none⟩) n n w').mono (fun e w'' q => ⟨_, q.1, ⟨b, n, rfl, hn, KKept.of_grew q.2 _ _ _ _ hb⟩, q.2⟩)))
    clear hd hw hc ho
    simp [go_sem, e1]
  · intro L a w' hL ho hw hc hd g
    exact sm_insert (k := ⟨30, 7, 0, 20, sfCells [1, 2, 3, 4, 7, 1, 8, 4, 12, 4, 16, 4]⟩) sRows_good (by simp [sRows]) rfl rfl rfl hL hd hc g (by kernel_rfl) rfl (by kernel_rfl) (hd 0 1 (hw 0 (by kernel_rfl)) (by kernel_rfl)) (hd 29 28 (hw 29 (by kernel_rfl)) (by kernel_rfl))
  · intro L a w' hL ho hw hc hd g
    exact sm_of hd g (by kernel_rfl) (each_call (f := 55) (args := #[.int .i64 1, .int .i64 2]) (by simp [go_sem]) ((srp_unsigned 1 2 w').mono (fun e w'' q => ⟨_, q.1, rfl, q.2⟩)))
  · intro L a w' hL ho hw hc hd g
    exact sm_of hd g (by kernel_rfl) (each_call (f := 55) (args := #[.int .i64 3, .int .i64 2]) (by simp [go_sem]) ((srp_unsigned 3 2 w').mono (fun e w'' q => ⟨_, q.1, rfl, q.2⟩)))
  · intro L a w' hL ho hw hc hd g
    exact sm_of hd g (by kernel_rfl) (each_call (f := 55) (args := #[.int .i64 5, .int .i64 2]) (by simp [go_sem]) ((srp_unsigned 5 2 w').mono (fun e w'' q => ⟨_, q.1, rfl, q.2⟩)))
  · intro L a w' hL ho hw hc hd g
    exact sm_of hd g (by kernel_rfl) (each_call (f := 55) (args := #[.int .i64 7, .int .i64 4]) (by simp [go_sem]) ((srp_unsigned 7 4 w').mono (fun e w'' q => ⟨_, q.1, rfl, q.2⟩)))
  · intro L a w' hL ho hw hc hd g
    exact sm_of hd g (by kernel_rfl) (each_call (f := 55) (args := #[.int .i64 11, .int .i64 2]) (by simp [go_sem]) ((srp_unsigned 11 2 w').mono (fun e w'' q => ⟨_, q.1, rfl, q.2⟩)))
  · intro L a w' hL ho hw hc hd g
    exact sm_of hd g (by kernel_rfl) (each_call (f := 55) (args := #[.int .i64 13, .int .i64 1]) (by simp [go_sem]) ((srp_unsigned 13 1 w').mono (fun e w'' q => ⟨_, q.1, rfl, q.2⟩)))
  · intro L a w' hL ho hw hc hd g
    exact sm_of hd g (by kernel_rfl) (each_call (f := 55) (args := #[.int .i64 14, .int .i64 1]) (by simp [go_sem]) ((srp_unsigned 14 1 w').mono (fun e w'' q => ⟨_, q.1, rfl, q.2⟩)))
  · intro L a w' hL ho hw hc hd g
    exact sm_of hd g (by kernel_rfl) (each_call (f := 55) (args := #[.int .i64 15, .int .i64 1]) (by simp [go_sem]) ((srp_unsigned 15 1 w').mono (fun e w'' q => ⟨_, q.1, rfl, q.2⟩)))
  · intro L a w' hL ho hw hc hd g
    exact sm_of hd g (by kernel_rfl) (each_call (f := 55) (args := #[.int .i64 16, .int .i64 1]) (by simp [go_sem]) ((srp_unsigned 16 1 w').mono (fun e w'' q => ⟨_, q.1, rfl, q.2⟩)))
  · intro L a w' hL ho hw hc hd g
    exact sm_of hd g (by kernel_rfl) (each_call (f := 55) (args := #[.int .i64 17, .int .i64 2]) (by simp [go_sem]) ((srp_unsigned 17 2 w').mono (fun e w'' q => ⟨_, q.1, rfl, q.2⟩)))
  · intro L a w' hL ho hw hc hd g
    have e29 : a.tmps[29]?.getD undef = .agg #[.int .i64 1, .int .i64 2, .bool false] := hd 31 29 (hw 31 (by kernel_rfl)) (by kernel_rfl)
    have e30 : a.tmps[30]?.getD undef = .agg #[.int .i64 3, .int .i64 2, .bool false] := hd 32 30 (hw 32 (by kernel_rfl)) (by kernel_rfl)
    have e31 : a.tmps[31]?.getD undef = .agg #[.int .i64 5, .int .i64 2, .bool false] := hd 33 31 (hw 33 (by kernel_rfl)) (by kernel_rfl)
    have e32 : a.tmps[32]?.getD undef = .agg #[.int .i64 7, .int .i64 4, .bool false] := hd 34 32 (hw 34 (by kernel_rfl)) (by kernel_rfl)
    have e33 : a.tmps[33]?.getD undef = .agg #[.int .i64 11, .int .i64 2, .bool false] := hd 35 33 (hw 35 (by kernel_rfl)) (by kernel_rfl)
    have e34 : a.tmps[34]?.getD undef = .agg #[.int .i64 13, .int .i64 1, .bool false] := hd 36 34 (hw 36 (by kernel_rfl)) (by kernel_rfl)
    have e35 : a.tmps[35]?.getD undef = .agg #[.int .i64 14, .int .i64 1, .bool false] := hd 37 35 (hw 37 (by kernel_rfl)) (by kernel_rfl)
    have e36 : a.tmps[36]?.getD undef = .agg #[.int .i64 15, .int .i64 1, .bool false] := hd 38 36 (hw 38 (by kernel_rfl)) (by kernel_rfl)
    have e37 : a.tmps[37]?.getD undef = .agg #[.int .i64 16, .int .i64 1, .bool false] := hd 39 37 (hw 39 (by kernel_rfl)) (by kernel_rfl)
    have e38 : a.tmps[38]?.getD undef = .agg #[.int .i64 17, .int .i64 2, .bool false] := hd 40 38 (hw 40 (by kernel_rfl)) (by kernel_rfl)
    refine sm_of hd g (by kernel_rfl) (each_made (v := .slice (some ⟨w'.heap.size, 0, none⟩) 10 10) (w1 := w'.alloc (.cells #[.int .i64 1, .int .i64 2, .bool false, .int .i64 3, .int .i64 2, .bool false, .int .i64 5, .int .i64 2, .bool false, .int .i64 7, .int .i64 4, .bool false, .int .i64 11, .int .i64 2, .bool false, .int .i64 13, .int .i64 1, .bool false, .int .i64 14, .int .i64 1, .bool false, .int .i64 15, .int .i64 1, .bool false, .int .i64 16, .int .i64 1, .bool false, .int .i64 17, .int .i64 2, .bool false] 106)) ?_ ((Grew.refl _).alloc _) ⟨_, _, rfl, by kernel_rfl, heap_alloc_new _ _⟩)
    clear hd hw hc ho
    simp [execOp, go_sem, e29, e30, e31, e32, e33, e34, e35, e36, e37, e38]
  · intro L a w' hL ho hw hc hd g
    obtain ⟨b, n, e1, hn, hb⟩ : SLeft 106 w sRows L (.inr (.inl (sfCells [1, 2, 3, 2, 5, 2, 7, 4, 11, 2, 13, 1, 14, 1, 15, 1, 16, 1, 17, 2]))) w' (a.tmps[39]?.getD undef) := hd 41 39 (hw 41 (by kernel_rfl)) (by kernel_rfl)
    refine sm_of hd g (by kernel_rfl) (each_call (f := 53) (args := #[.int .i64 91, .slice (some ⟨b, 0, none⟩) n n]) ?_ ((srp_kind 91 (some ⟨b, 0, none⟩) n n w').mono (fun e w'' q => ⟨_, q.1, ⟨b, n, rfl, hn, KKept.of_grew q.2 _ _ _ _ hb⟩, q.2⟩)))
    clear hd hw hc ho
    simp [go_sem, e1]
  · intro L a w' hL ho hw hc hd g
    exact sm_insert (k := ⟨43, 41, 0, 91, sfCells [1, 2, 3, 2, 5, 2, 7, 4, 11, 2, 13, 1, 14, 1, 15, 1, 16, 1, 17, 2]⟩) sRows_good (by simp [sRows]) rfl rfl rfl hL hd hc g (by kernel_rfl) rfl (by kernel_rfl) (hd 0 1 (hw 0 (by kernel_rfl)) (by kernel_rfl)) (hd 42 40 (hw 42 (by kernel_rfl)) (by kernel_rfl))
  · intro L a w' hL ho hw hc hd g
    exact sm_of hd g (by kernel_rfl) (each_call (f := 55) (args := #[.int .i64 1, .int .i64 1]) (by simp [go_sem]) ((srp_unsigned 1 1 w').mono (fun e w'' q => ⟨_, q.1, rfl, q.2⟩)))
  · intro L a w' hL ho hw hc hd g
    exact sm_of hd g (by kernel_rfl) (each_call (f := 55) (args := #[.int .i64 2, .int .i64 1]) (by simp [go_sem]) ((srp_unsigned 2 1 w').mono (fun e w'' q => ⟨_, q.1, rfl, q.2⟩)))
  · intro L a w' hL ho hw hc hd g
    exact sm_of hd g (by kernel_rfl) (each_call (f := 55) (args := #[.int .i64 3, .int .i64 1]) (by simp [go_sem]) ((srp_unsigned 3 1 w').mono (fun e w'' q => ⟨_, q.1, rfl, q.2⟩)))
  · intro L a w' hL ho hw hc hd g
    exact sm_of hd g (by kernel_rfl) (each_call (f := 55) (args := #[.int .i64 4, .int .i64 1]) (by simp [go_sem]) ((srp_unsigned 4 1 w').mono (fun e w'' q => ⟨_, q.1, rfl, q.2⟩)))
  · intro L a w' hL ho hw hc hd g
    exact sm_of hd g (by kernel_rfl) (each_call (f := 55) (args := #[.int .i64 5, .int .i64 1]) (by simp [go_sem]) ((srp_unsigned 5 1 w').mono (fun e w'' q => ⟨_, q.1, rfl, q.2⟩)))
  · intro L a w' hL ho hw hc hd g
    exact sm_of hd g (by kernel_rfl) (each_call (f := 55) (args := #[.int .i64 6, .int .i64 2]) (by simp [go_sem]) ((srp_unsigned 6 2 w').mono (fun e w'' q => ⟨_, q.1, rfl, q.2⟩)))
  · intro L a w' hL ho hw hc hd g
    exact sm_of hd g (by kernel_rfl) (each_call (f := 54) (args := #[.int .i64 8, .int .i64 2]) (by simp [go_sem]) ((srp_signed 8 2 w').mono (fun e w'' q => ⟨_, q.1, rfl, q.2⟩)))
  · intro L a w' hL ho hw hc hd g
    exact sm_of hd g (by kernel_rfl) (each_call (f := 55) (args := #[.int .i64 10, .int .i64 4]) (by simp [go_sem]) ((srp_unsigned 10 4 w').mono (fun e w'' q => ⟨_, q.1, rfl, q.2⟩)))
  · intro L a w' hL ho hw hc hd g
    exact sm_of hd g (by kernel_rfl) (each_call (f := 55) (args := #[.int .i64 14, .int .i64 1]) (by simp [go_sem]) ((srp_unsigned 14 1 w').mono (fun e w'' q => ⟨_, q.1, rfl, q.2⟩)))
  · intro L a w' hL ho hw hc hd g
    have e41 : a.tmps[41]?.getD undef = .agg #[.int .i64 1, .int .i64 1, .bool false] := hd 44 41 (hw 44 (by kernel_rfl)) (by kernel_rfl)
    have e42 : a.tmps[42]?.getD undef = .agg #[.int .i64 2, .int .i64 1, .bool false] := hd 45 42 (hw 45 (by kernel_rfl)) (by kernel_rfl)
    have e43 : a.tmps[43]?.getD undef = .agg #[.int .i64 3, .int .i64 1, .bool false] := hd 46 43 (hw 46 (by kernel_rfl)) (by kernel_rfl)
    have e44 : a.tmps[44]?.getD undef = .agg #[.int .i64 4, .int .i64 1, .bool false] := hd 47 44 (hw 47 (by kernel_rfl)) (by kernel_rfl)
    have e45 : a.tmps[45]?.getD undef = .agg #[.int .i64 5, .int .i64 1, .bool false] := hd 48 45 (hw 48 (by kernel_rfl)) (by kernel_rfl)
    have e46 : a.tmps[46]?.getD undef = .agg #[.int .i64 6, .int .i64 2, .bool false] := hd 49 46 (hw 49 (by kernel_rfl)) (by kernel_rfl)
    have e47 : a.tmps[47]?.getD undef = .agg #[.int .i64 8, .int .i64 2, .bool true] := hd 50 47 (hw 50 (by kernel_rfl)) (by kernel_rfl)
    have e48 : a.tmps[48]?.getD undef = .agg #[.int .i64 10, .int .i64 4, .bool false] := hd 51 48 (hw 51 (by kernel_rfl)) (by kernel_rfl)
    have e49 : a.tmps[49]?.getD undef = .agg #[.int .i64 14, .int .i64 1, .bool false] := hd 52 49 (hw 52 (by kernel_rfl)) (by kernel_rfl)
    refine sm_of hd g (by kernel_rfl) (each_made (v := .slice (some ⟨w'.heap.size, 0, none⟩) 9 9) (w1 := w'.alloc (.cells #[.int .i64 1, .int .i64 1, .bool false, .int .i64 2, .int .i64 1, .bool false, .int .i64 3, .int .i64 1, .bool false, .int .i64 4, .int .i64 1, .bool false, .int .i64 5, .int .i64 1, .bool false, .int .i64 6, .int .i64 2, .bool false, .int .i64 8, .int .i64 2, .bool true, .int .i64 10, .int .i64 4, .bool false, .int .i64 14, .int .i64 1, .bool false] 106)) ?_ ((Grew.refl _).alloc _) ⟨_, _, rfl, by kernel_rfl, heap_alloc_new _ _⟩)
    clear hd hw hc ho
    simp [execOp, go_sem, e41, e42, e43, e44, e45, e46, e47, e48, e49]
  · intro L a w' hL ho hw hc hd g
    obtain ⟨b, n, e1, hn, hb⟩ : SLeft 106 w sRows L (.inr (.inl (sfCells [1, 1, 2, 1, 3, 1, 4, 1, 5, 1, 6, 2, 8, -2, 10, 4, 14, 1]))) w' (a.tmps[50]?.getD undef) := hd 53 50 (hw 53 (by kernel_rfl)) (by kernel_rfl)
    refine sm_of hd g (by kernel_rfl) (each_call (f := 53) (args := #[.int .i64 19, .slice (some ⟨b, 0, none⟩) n n]) ?_ ((srp_kind 19 (some ⟨b, 0, none⟩) n n w').mono (fun e w'' q => ⟨_, q.1, ⟨b, n, rfl, hn, KKept.of_grew q.2 _ _ _ _ hb⟩, q.2⟩)))
    clear hd hw hc ho
    simp [go_sem, e1]
  · intro L a w' hL ho hw hc hd g
    exact sm_insert (k := ⟨55, 52, 0, 19, sfCells [1, 1, 2, 1, 3, 1, 4, 1, 5, 1, 6, 2, 8, -2, 10, 4, 14, 1]⟩) sRows_good (by simp [sRows]) rfl rfl rfl hL hd hc g (by kernel_rfl) rfl (by kernel_rfl) (hd 0 1 (hw 0 (by kernel_rfl)) (by kernel_rfl)) (hd 54 51 (hw 54 (by kernel_rfl)) (by kernel_rfl))
  · intro L a w' hL ho hw hc hd g
    exact sm_of hd g (by kernel_rfl) (each_call (f := 55) (args := #[.int .i64 1, .int .i64 1]) (by simp [go_sem]) ((srp_unsigned 1 1 w').mono (fun e w'' q => ⟨_, q.1, rfl, q.2⟩)))
  · intro L a w' hL ho hw hc hd g
    have e52 : a.tmps[52]?.getD undef = .agg #[.int .i64 1, .int .i64 1, .bool false] := hd 56 52 (hw 56 (by kernel_rfl)) (by kernel_rfl)
    refine sm_of hd g (by kernel_rfl) (each_made (v := .slice (some ⟨w'.heap.size, 0, none⟩) 1 1) (w1 := w'.alloc (.cells #[.int .i64 1, .int .i64 1, .bool false] 106)) ?_ ((Grew.refl _).alloc _) ⟨_, _, rfl, by kernel_rfl, heap_alloc_new _ _⟩)
    clear hd hw hc ho
    simp [execOp, go_sem, e52]
  · intro L a w' hL ho hw hc hd g
    obtain ⟨b, n, e1, hn, hb⟩ : SLeft 106 w sRows L (.inr (.inl (sfCells [1, 1]))) w' (a.tmps[53]?.getD undef) := hd 57 53 (hw 57 (by kernel_rfl)) (by kernel_rfl)
    refine sm_of hd g (by kernel_rfl) (each_call (f := 53) (args := #[.int .i64 2, .slice (some ⟨b, 0, none⟩) n n]) ?_ ((srp_kind 2 (some ⟨b, 0, none⟩) n n w').mono (fun e w'' q => ⟨_, q.1, ⟨b, n, rfl, hn, KKept.of_grew q.2 _ _ _ _ hb⟩, q.2⟩)))
    clear hd hw hc ho
    simp [go_sem, e1]
  · intro L a w' hL ho hw hc hd g
    exact sm_insert (k := ⟨59, 11, 0, 2, sfCells [1, 1]⟩) sRows_good (by simp [sRows]) rfl rfl rfl hL hd hc g (by kernel_rfl) rfl (by kernel_rfl) (hd 0 1 (hw 0 (by kernel_rfl)) (by kernel_rfl)) (hd 58 54 (hw 58 (by kernel_rfl)) (by kernel_rfl))
  · intro L a w' hL ho hw hc hd g
    exact sm_of hd g (by kernel_rfl) (each_call (f := 55) (args := #[.int .i64 1, .int .i64 1]) (by simp [go_sem]) ((srp_unsigned 1 1 w').mono (fun e w'' q => ⟨_, q.1, rfl, q.2⟩)))
  · intro L a w' hL ho hw hc hd g
    have e55 : a.tmps[55]?.getD undef = .agg #[.int .i64 1, .int .i64 1, .bool false] := hd 60 55 (hw 60 (by kernel_rfl)) (by kernel_rfl)
    refine sm_of hd g (by kernel_rfl) (each_made (v := .slice (some ⟨w'.heap.size, 0, none⟩) 1 1) (w1 := w'.alloc (.cells #[.int .i64 1, .int .i64 1, .bool false] 106)) ?_ ((Grew.refl _).alloc _) ⟨_, _, rfl, by kernel_rfl, heap_alloc_new _ _⟩)
    clear hd hw hc ho
    simp [execOp, go_sem, e55]
  · intro L a w' hL ho hw hc hd g
    obtain ⟨b, n, e1, hn, hb⟩ : SLeft 106 w sRows L (.inr (.inl (sfCells [1, 1]))) w' (a.tmps[56]?.getD undef) := hd 61 56 (hw 61 (by kernel_rfl)) (by kernel_rfl)
    refine sm_of hd g (by kernel_rfl) (each_call (f := 53) (args := #[.int .i64 2, .slice (some ⟨b, 0, none⟩) n n]) ?_ ((srp_kind 2 (some ⟨b, 0, none⟩) n n w').mono (fun e w'' q => ⟨_, q.1, ⟨b, n, rfl, hn, KKept.of_grew q.2 _ _ _ _ hb⟩, q.2⟩)))
    clear hd hw hc ho
    simp [go_sem, e1]
  · intro L a w' hL ho hw hc hd g
    exact sm_insert (k := ⟨63, 12, 0, 2, sfCells [1, 1]⟩) sRows_good (by simp [sRows]) rfl rfl rfl hL hd hc g (by kernel_rfl) rfl (by kernel_rfl) (hd 0 1 (hw 0 (by kernel_rfl)) (by kernel_rfl)) (hd 62 57 (hw 62 (by kernel_rfl)) (by kernel_rfl))
  · intro L a w' hL ho hw hc hd g
    exact sm_of hd g (by kernel_rfl) (each_call (f := 55) (args := #[.int .i64 1, .int .i64 1]) (by simp [go_sem]) ((srp_unsigned 1 1 w').mono (fun e w'' q => ⟨_, q.1, rfl, q.2⟩)))
  · intro L a w' hL ho hw hc hd g
    exact sm_of hd g (by kernel_rfl) (each_call (f := 55) (args := #[.int .i64 2, .int .i64 1]) (by simp [go_sem]) ((srp_unsigned 2 1 w').mono (fun e w'' q => ⟨_, q.1, rfl, q.2⟩)))
  · intro L a w' hL ho hw hc hd g
    exact sm_of hd g (by kernel_rfl) (each_call (f := 55) (args := #[.int .i64 3, .int .i64 1]) (by simp [go_sem]) ((srp_unsigned 3 1 w').mono (fun e w'' q => ⟨_, q.1, rfl, q.2⟩)))
  · intro L a w' hL ho hw hc hd g
    have e58 : a.tmps[58]?.getD undef = .agg #[.int .i64 1, .int .i64 1, .bool false] := hd 64 58 (hw 64 (by kernel_rfl)) (by kernel_rfl)
    have e59 : a.tmps[59]?.getD undef = .agg #[.int .i64 2, .int .i64 1, .bool false] := hd 65 59 (hw 65 (by kernel_rfl)) (by kernel_rfl)
    have e60 : a.tmps[60]?.getD undef = .agg #[.int .i64 3, .int .i64 1, .bool false] := hd 66 60 (hw 66 (by kernel_rfl)) (by kernel_rfl)
    refine sm_of hd g (by kernel_rfl) (each_made (v := .slice (some ⟨w'.heap.size, 0, none⟩) 3 3) (w1 := w'.alloc (.cells #[.int .i64 1, .int .i64 1, .bool false, .int .i64 2, .int .i64 1, .bool false, .int .i64 3, .int .i64 1, .bool false] 106)) ?_ ((Grew.refl _).alloc _) ⟨_, _, rfl, by kernel_rfl, heap_alloc_new _ _⟩)
    clear hd hw hc ho
    simp [execOp, go_sem, e58, e59, e60]
  · intro L a w' hL ho hw hc hd g
    obtain ⟨b, n, e1, hn, hb⟩ : SLeft 106 w sRows L (.inr (.inl (sfCells [1, 1, 2, 1, 3, 1]))) w' (a.tmps[61]?.getD undef) := hd 67 61 (hw 67 (by kernel_rfl)) (by kernel_rfl)
    refine sm_of hd g (by kernel_rfl) (each_call (f := 53) (args := #[.int .i64 8, .slice (some ⟨b, 0, none⟩) n n]) ?_ ((srp_kind 8 (some ⟨b, 0, none⟩) n n w').mono (fun e w'' q => ⟨_, q.1, ⟨b, n, rfl, hn, KKept.of_grew q.2 _ _ _ _ hb⟩, q.2⟩)))
    clear hd hw hc ho
    simp [go_sem, e1]
  · intro L a w' hL ho hw hc hd g
    exact sm_insert (k := ⟨69, 166, 0, 8, sfCells [1, 1, 2, 1, 3, 1]⟩) sRows_good (by simp [sRows]) rfl rfl rfl hL hd hc g (by kernel_rfl) rfl (by kernel_rfl) (hd 0 1 (hw 0 (by kernel_rfl)) (by kernel_rfl)) (hd 68 62 (hw 68 (by kernel_rfl)) (by kernel_rfl))
  · intro L a w' hL ho hw hc hd g
    obtain ⟨m, e1, hm⟩ : SLeft 106 w sRows L (.inr (.inr (.inr ()))) w' (a.tmps[1]?.getD undef) := hd 0 1 (hw 0 (by kernel_rfl)) (by kernel_rfl)
    refine sm_of hd g (by kernel_rfl) (each_value (v := .map (some m)) ?_ ⟨m, rfl, hm.also (Grew.refl _) (fun k hk => by have := List.all_eq_true.1 (show sRows.all (fun k => k.at_ != 70) = true by kernel_rfl) k hk; simpa using this)⟩)
    clear hd hw hc ho
    simp [execOp, go_sem, e1]
  · intro L a w' hL ho hw hc hd g
    obtain ⟨m, e1, hm⟩ : SLeft 106 w sRows L (.inr (.inr (.inr ()))) w' (a.tmps[63]?.getD undef) := hd 70 63 (hw 70 (by kernel_rfl)) (by kernel_rfl)
    refine sm_of hd g (by kernel_rfl) (each_value (v := .map (some m)) ?_ ⟨m, rfl, hm.also (Grew.refl _) (fun k hk => by have := List.all_eq_true.1 (show sRows.all (fun k => k.at_ != 71) = true by kernel_rfl) k hk; simpa using this)⟩)
    clear hd hw hc ho
    simp [execOp, go_sem, e1]
end Go.Proofs.Ytcdmbnbanopioaa

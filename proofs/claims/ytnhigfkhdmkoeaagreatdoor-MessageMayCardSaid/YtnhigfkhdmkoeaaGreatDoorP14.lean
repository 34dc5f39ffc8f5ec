/-
  The program's table of SiRF kinds: the map that sirf.kinds makes, in whatever order its entries come up.
  The program's table of SiRF kinds: a kind looked up.
  The program's SiRF fields: a value read out of a payload, a value written in one, highest byte first.
  The document's SiRF messages: a payload written.
  The program's SiRF messages: a kind looked up, whatever comes up first.
  The program's SiRF messages: a payload read.
-/
import Derived.Test.YtnhigfkhdmkoeaaGreatDoorP13
import Derived.Deep.CutBlock
import Derived.Deep.DeepCutAuto
import Derived.Test.YtnhigfkhdmkoeaaGreatDoorP03
import Derived.Test.YtnhigfkhdmkoeaaGreatDoorP02
import Derived.Test.YtnhigfkhdmkoeaaGreatDoorP04
import Derived.OwnWalk

namespace Go.Proofs.YtnhigfkhdmkoeaaGreatDoor
open Go.RowKit
set_option linter.unusedVariables false

/-- The cells of a kind's fields. -/
def sfCells : List Int → List Value
  | p :: s :: r => .int .i64 p :: .int .i64 (s.natAbs : Nat) :: .bool (decide (s < 0)) :: sfCells r
  | _ => []
def sopsAt (n : Nat) : Code → Array Oper
  | .region k ops _ => if k = n then ops else #[]
  | .seq a b => sopsAt n a ++ sopsAt n b
  | _ => #[]
noncomputable def sOps : Array Oper := (Tryz.f54.body.map (sopsAt 1)).getD #[]
noncomputable def sRows : List KRow := [⟨15, 2, 0, 41, sfCells [1, -4, 5, -4, 9, -4, 13, -2, 15, -2, 17, -2, 19, 1, 20, 1, 21, 1, 22, 2, 24, 4, 28, 1]⟩,
  ⟨21, 4, 0, 188, sfCells [1, -2, 3, 4, 7, 1]⟩,
  ⟨30, 7, 0, 20, sfCells [1, 2, 3, 4, 7, 1, 8, 4, 12, 4, 16, 4]⟩,
  ⟨43, 41, 0, 91, sfCells [1, 2, 3, 2, 5, 2, 7, 4, 11, 2, 13, 1, 14, 1, 15, 1, 16, 1, 17, 2]⟩,
  ⟨55, 52, 0, 19, sfCells [1, 1, 2, 1, 3, 1, 4, 1, 5, 1, 6, 2, 8, -2, 10, 4, 14, 1]⟩,
  ⟨59, 11, 0, 2, sfCells [1, 1]⟩,
  ⟨63, 12, 0, 2, sfCells [1, 1]⟩,
  ⟨69, 166, 0, 8, sfCells [1, 1, 2, 1, 3, 1]⟩]
theorem sRows_good : SGood sRows := by
  constructor <;> (unfold sRows; simp)
set_option maxHeartbeats 1000000 in
theorem srp_unsigned (p n : Int) (w : World) : Calls Tryz.prog 78 #[.int .i64 p, .int .i64 n] w fun e w' => e = .returned (.agg #[.int .i64 p, .int .i64 n, .bool false]) ∧ Grew w w' := by
  go_enter Tryz.func78, Tryz.ntmps78
  go_wp2_with fail
  refine bodyPost_ret (by simp [results, Tryz.results78, go_sem]; try rfl) rfl ?_
  exact ⟨rfl, (Grew.refl w).alloc _⟩
set_option maxHeartbeats 1000000 in
theorem srp_signed (p n : Int) (w : World) : Calls Tryz.prog 77 #[.int .i64 p, .int .i64 n] w fun e w' => e = .returned (.agg #[.int .i64 p, .int .i64 n, .bool true]) ∧ Grew w w' := by
  go_enter Tryz.func77, Tryz.ntmps77
  go_wp2_with fail
  refine bodyPost_ret (by simp [results, Tryz.results77, go_sem]; try rfl) rfl ?_
  exact ⟨rfl, (Grew.refl w).alloc _⟩
set_option maxHeartbeats 1000000 in
theorem srp_kind (n : Int) (A : Option Addr) (l c : Nat) (w : World) : Calls Tryz.prog 76 #[.int .i64 n, .slice A l c] w fun e w' => e = .returned (.agg #[.int .i64 n, .slice A l c]) ∧ Grew w w' := by
  go_enter Tryz.func76, Tryz.ntmps76
  go_wp2_with fail
  refine bodyPost_ret (by simp [results, Tryz.results76, go_sem]; try rfl) rfl ?_
  exact ⟨rfl, (Grew.refl w).alloc _⟩
/-- The table as it stands. -/
def SKindsAt (w : World) (v : Value) : Prop :=
  ∃ m es clk, v = .map (some m) ∧ w.heap[m]? = some (.map es clk) ∧ (∀ e ∈ es.toList, ∃ k ∈ sRows, SEntry 107 w k e) ∧ (∀ k ∈ sRows, ∃ e ∈ es.toList, SEntry 107 w k e)
noncomputable def sShapes : List KShape := [.inr (.inr (.inr ())),
  .inl (.agg #[.int .i64 1, .int .i64 4, .bool true]),
  .inl (.agg #[.int .i64 5, .int .i64 4, .bool true]),
  .inl (.agg #[.int .i64 9, .int .i64 4, .bool true]),
  .inl (.agg #[.int .i64 13, .int .i64 2, .bool true]),
  .inl (.agg #[.int .i64 15, .int .i64 2, .bool true]),
  .inl (.agg #[.int .i64 17, .int .i64 2, .bool true]),
  .inl (.agg #[.int .i64 19, .int .i64 1, .bool false]),
  .inl (.agg #[.int .i64 20, .int .i64 1, .bool false]),
  .inl (.agg #[.int .i64 21, .int .i64 1, .bool false]),
  .inl (.agg #[.int .i64 22, .int .i64 2, .bool false]),
  .inl (.agg #[.int .i64 24, .int .i64 4, .bool false]),
  .inl (.agg #[.int .i64 28, .int .i64 1, .bool false]),
  .inr (.inl (sfCells [1, -4, 5, -4, 9, -4, 13, -2, 15, -2, 17, -2, 19, 1, 20, 1, 21, 1, 22, 2, 24, 4, 28, 1])),
  .inr (.inr (.inl (41, sfCells [1, -4, 5, -4, 9, -4, 13, -2, 15, -2, 17, -2, 19, 1, 20, 1, 21, 1, 22, 2, 24, 4, 28, 1]))),
  .inl undef,
  .inl (.agg #[.int .i64 1, .int .i64 2, .bool true]),
  .inl (.agg #[.int .i64 3, .int .i64 4, .bool false]),
  .inl (.agg #[.int .i64 7, .int .i64 1, .bool false]),
  .inr (.inl (sfCells [1, -2, 3, 4, 7, 1])),
  .inr (.inr (.inl (188, sfCells [1, -2, 3, 4, 7, 1]))),
  .inl undef,
  .inl (.agg #[.int .i64 1, .int .i64 2, .bool false]),
  .inl (.agg #[.int .i64 3, .int .i64 4, .bool false]),
  .inl (.agg #[.int .i64 7, .int .i64 1, .bool false]),
  .inl (.agg #[.int .i64 8, .int .i64 4, .bool false]),
  .inl (.agg #[.int .i64 12, .int .i64 4, .bool false]),
  .inl (.agg #[.int .i64 16, .int .i64 4, .bool false]),
  .inr (.inl (sfCells [1, 2, 3, 4, 7, 1, 8, 4, 12, 4, 16, 4])),
  .inr (.inr (.inl (20, sfCells [1, 2, 3, 4, 7, 1, 8, 4, 12, 4, 16, 4]))),
  .inl undef,
  .inl (.agg #[.int .i64 1, .int .i64 2, .bool false]),
  .inl (.agg #[.int .i64 3, .int .i64 2, .bool false]),
  .inl (.agg #[.int .i64 5, .int .i64 2, .bool false]),
  .inl (.agg #[.int .i64 7, .int .i64 4, .bool false]),
  .inl (.agg #[.int .i64 11, .int .i64 2, .bool false]),
  .inl (.agg #[.int .i64 13, .int .i64 1, .bool false]),
  .inl (.agg #[.int .i64 14, .int .i64 1, .bool false]),
  .inl (.agg #[.int .i64 15, .int .i64 1, .bool false]),
  .inl (.agg #[.int .i64 16, .int .i64 1, .bool false]),
  .inl (.agg #[.int .i64 17, .int .i64 2, .bool false]),
  .inr (.inl (sfCells [1, 2, 3, 2, 5, 2, 7, 4, 11, 2, 13, 1, 14, 1, 15, 1, 16, 1, 17, 2])),
  .inr (.inr (.inl (91, sfCells [1, 2, 3, 2, 5, 2, 7, 4, 11, 2, 13, 1, 14, 1, 15, 1, 16, 1, 17, 2]))),
  .inl undef,
  .inl (.agg #[.int .i64 1, .int .i64 1, .bool false]),
  .inl (.agg #[.int .i64 2, .int .i64 1, .bool false]),
  .inl (.agg #[.int .i64 3, .int .i64 1, .bool false]),
  .inl (.agg #[.int .i64 4, .int .i64 1, .bool false]),
  .inl (.agg #[.int .i64 5, .int .i64 1, .bool false]),
  .inl (.agg #[.int .i64 6, .int .i64 2, .bool false]),
  .inl (.agg #[.int .i64 8, .int .i64 2, .bool true]),
  .inl (.agg #[.int .i64 10, .int .i64 4, .bool false]),
  .inl (.agg #[.int .i64 14, .int .i64 1, .bool false]),
  .inr (.inl (sfCells [1, 1, 2, 1, 3, 1, 4, 1, 5, 1, 6, 2, 8, -2, 10, 4, 14, 1])),
  .inr (.inr (.inl (19, sfCells [1, 1, 2, 1, 3, 1, 4, 1, 5, 1, 6, 2, 8, -2, 10, 4, 14, 1]))),
  .inl undef,
  .inl (.agg #[.int .i64 1, .int .i64 1, .bool false]),
  .inr (.inl (sfCells [1, 1])),
  .inr (.inr (.inl (2, sfCells [1, 1]))),
  .inl undef,
  .inl (.agg #[.int .i64 1, .int .i64 1, .bool false]),
  .inr (.inl (sfCells [1, 1])),
  .inr (.inr (.inl (2, sfCells [1, 1]))),
  .inl undef,
  .inl (.agg #[.int .i64 1, .int .i64 1, .bool false]),
  .inl (.agg #[.int .i64 2, .int .i64 1, .bool false]),
  .inl (.agg #[.int .i64 3, .int .i64 1, .bool false]),
  .inr (.inl (sfCells [1, 1, 2, 1, 3, 1])),
  .inr (.inr (.inl (8, sfCells [1, 1, 2, 1, 3, 1]))),
  .inl undef,
  .inr (.inr (.inr ())),
  .inr (.inr (.inr ()))]
set_option maxRecDepth 1000000 in
set_option maxHeartbeats 8000000 in
theorem srp_kinds (w : World) : Calls Tryz.prog 54 #[] w fun e w' => ∃ v, e = .returned v ∧ SKindsAt w' v ∧ Grew w w' := by
  go_enter Tryz.func54, Tryz.ntmps54
  go_upto_region 1 with fail
  refine wp_region_fillW (n := 64) (ops := sOps) ?_ (fun L i w' v => SLeft 107 w sRows L (sShapes.getD i (.inl undef)) w' v) ?_ ?_ ?_ ?_
  case refine_1 => kernel_rfl
  case refine_2 => kernel_rfl
  case refine_3 => rfl
  case refine_5 =>
    intro L a w' hL hdef hsz ho hd g
    obtain ⟨m, e1, hWm, es, clk, hb, h1, h2⟩ : SLeft 107 w sRows L (.inr (.inr (.inr ()))) w' (a.tmps[0]?.getD undef) := hd 71 0 (by kernel_rfl)
    go_wp2_with fail
    refine bodyPost_ret (v := .map (some m)) (by simp [results, Tryz.results54, go_sem, e1]; try rfl) hdef ?_
    exact ⟨_, rfl, ⟨m, es, clk, rfl, hb, fun e he => (by obtain ⟨k, hk, _, hx⟩ := h1 e he; exact ⟨k, hk, hx⟩), fun k hk => h2 k hk (hL _ (by have := List.all_eq_true.1 (show sRows.all (fun k => decide (k.at_ < sOps.size)) = true by kernel_rfl) k hk; simpa using this))⟩, g⟩
  simp only [AllFrom, List.append]
  refine ⟨?_, ?_, ?_, ?_, ?_, ?_, ?_, ?_, ?_, ?_, ?_, ?_, ?_, ?_, ?_, ?_, ?_, ?_, ?_, ?_, ?_, ?_, ?_, ?_, ?_, ?_, ?_, ?_, ?_, ?_, ?_, ?_, ?_, ?_, ?_, ?_, ?_, ?_, ?_, ?_, ?_, ?_, ?_, ?_, ?_, ?_, ?_, ?_, ?_, ?_, ?_, ?_, ?_, ?_, ?_, ?_, ?_, ?_, ?_, ?_, ?_, ?_, ?_, ?_, ?_, ?_, ?_, ?_, ?_, ?_, ?_, ?_, trivial⟩
  · intro L a w' hL ho hw hc hd g
    refine sm_of hd g (by kernel_rfl) ?_
    refine each_made (v := .map (some w'.heap.size)) (w1 := w'.alloc (.map #[] 0)) ?_ ((Grew.refl _).alloc _) ⟨_, rfl, g.size, #[], 0, heap_alloc_new _ _, fun e he => (by simp at he), fun k hk hl => ?_⟩
    · simp [execOp, go_sem, run_makeMap]
    · exfalso
      have hl2 : L k.at_ = true := by rw [also_ne (by have := List.all_eq_true.1 (show sRows.all (fun k => k.at_ != 0) = true by kernel_rfl) k hk; simpa using this)] at hl; exact hl
      have := hc k.at_ 0 hl2 (by have := List.all_eq_true.1 (show sRows.all (fun k => waitsAt sOps k.at_ 0) = true by kernel_rfl) k hk; simpa using this)
      rw [hL] at this
      cases this
  · intro L a w' hL ho hw hc hd g
    exact sm_of hd g (by kernel_rfl) (each_call (f := 77) (args := #[.int .i64 1, .int .i64 4]) (by simp [go_sem]) ((srp_signed 1 4 w').mono (fun e w'' q => ⟨_, q.1, rfl, q.2⟩)))
  · intro L a w' hL ho hw hc hd g
    exact sm_of hd g (by kernel_rfl) (each_call (f := 77) (args := #[.int .i64 5, .int .i64 4]) (by simp [go_sem]) ((srp_signed 5 4 w').mono (fun e w'' q => ⟨_, q.1, rfl, q.2⟩)))
  · intro L a w' hL ho hw hc hd g
    exact sm_of hd g (by kernel_rfl) (each_call (f := 77) (args := #[.int .i64 9, .int .i64 4]) (by simp [go_sem]) ((srp_signed 9 4 w').mono (fun e w'' q => ⟨_, q.1, rfl, q.2⟩)))
  · intro L a w' hL ho hw hc hd g
    exact sm_of hd g (by kernel_rfl) (each_call (f := 77) (args := #[.int .i64 13, .int .i64 2]) (by simp [go_sem]) ((srp_signed 13 2 w').mono (fun e w'' q => ⟨_, q.1, rfl, q.2⟩)))
  · intro L a w' hL ho hw hc hd g
    exact sm_of hd g (by kernel_rfl) (each_call (f := 77) (args := #[.int .i64 15, .int .i64 2]) (by simp [go_sem]) ((srp_signed 15 2 w').mono (fun e w'' q => ⟨_, q.1, rfl, q.2⟩)))
  · intro L a w' hL ho hw hc hd g
    exact sm_of hd g (by kernel_rfl) (each_call (f := 77) (args := #[.int .i64 17, .int .i64 2]) (by simp [go_sem]) ((srp_signed 17 2 w').mono (fun e w'' q => ⟨_, q.1, rfl, q.2⟩)))
  · intro L a w' hL ho hw hc hd g
    exact sm_of hd g (by kernel_rfl) (each_call (f := 78) (args := #[.int .i64 19, .int .i64 1]) (by simp [go_sem]) ((srp_unsigned 19 1 w').mono (fun e w'' q => ⟨_, q.1, rfl, q.2⟩)))
  · intro L a w' hL ho hw hc hd g
    exact sm_of hd g (by kernel_rfl) (each_call (f := 78) (args := #[.int .i64 20, .int .i64 1]) (by simp [go_sem]) ((srp_unsigned 20 1 w').mono (fun e w'' q => ⟨_, q.1, rfl, q.2⟩)))
  · intro L a w' hL ho hw hc hd g
    exact sm_of hd g (by kernel_rfl) (each_call (f := 78) (args := #[.int .i64 21, .int .i64 1]) (by simp [go_sem]) ((srp_unsigned 21 1 w').mono (fun e w'' q => ⟨_, q.1, rfl, q.2⟩)))
  · intro L a w' hL ho hw hc hd g
    exact sm_of hd g (by kernel_rfl) (each_call (f := 78) (args := #[.int .i64 22, .int .i64 2]) (by simp [go_sem]) ((srp_unsigned 22 2 w').mono (fun e w'' q => ⟨_, q.1, rfl, q.2⟩)))
  · intro L a w' hL ho hw hc hd g
    exact sm_of hd g (by kernel_rfl) (each_call (f := 78) (args := #[.int .i64 24, .int .i64 4]) (by simp [go_sem]) ((srp_unsigned 24 4 w').mono (fun e w'' q => ⟨_, q.1, rfl, q.2⟩)))
  · intro L a w' hL ho hw hc hd g
    exact sm_of hd g (by kernel_rfl) (each_call (f := 78) (args := #[.int .i64 28, .int .i64 1]) (by simp [go_sem]) ((srp_unsigned 28 1 w').mono (fun e w'' q => ⟨_, q.1, rfl, q.2⟩)))
  · intro L a w' hL ho hw hc hd g
    have e2 : a.tmps[2]?.getD undef = .agg #[.int .i64 1, .int .i64 4, .bool true] := hd 1 2 (hw 1 (by kernel_rfl)) (by kernel_rfl)
    have e3 : a.tmps[3]?.getD undef = .agg #[.int .i64 5, .int .i64 4, .bool true] := hd 2 3 (hw 2 (by kernel_rfl)) (by kernel_rfl)
    have e4 : a.tmps[4]?.getD undef = .agg #[.int .i64 9, .int .i64 4, .bool true] := hd 3 4 (hw 3 (by kernel_rfl)) (by kernel_rfl)
    have e5 : a.tmps[5]?.getD undef = .agg #[.int .i64 13, .int .i64 2, .bool true] := hd 4 5 (hw 4 (by kernel_rfl)) (by kernel_rfl)
    have e6 : a.tmps[6]?.getD undef = .agg #[.int .i64 15, .int .i64 2, .bool true] := hd 5 6 (hw 5 (by kernel_rfl)) (by kernel_rfl)
    have e7 : a.tmps[7]?.getD undef = .agg #[.int .i64 17, .int .i64 2, .bool true] := hd 6 7 (hw 6 (by kernel_rfl)) (by kernel_rfl)
    have e8 : a.tmps[8]?.getD undef = .agg #[.int .i64 19, .int .i64 1, .bool false] := hd 7 8 (hw 7 (by kernel_rfl)) (by kernel_rfl)
    have e9 : a.tmps[9]?.getD undef = .agg #[.int .i64 20, .int .i64 1, .bool false] := hd 8 9 (hw 8 (by kernel_rfl)) (by kernel_rfl)
    have e10 : a.tmps[10]?.getD undef = .agg #[.int .i64 21, .int .i64 1, .bool false] := hd 9 10 (hw 9 (by kernel_rfl)) (by kernel_rfl)
    have e11 : a.tmps[11]?.getD undef = .agg #[.int .i64 22, .int .i64 2, .bool false] := hd 10 11 (hw 10 (by kernel_rfl)) (by kernel_rfl)
    have e12 : a.tmps[12]?.getD undef = .agg #[.int .i64 24, .int .i64 4, .bool false] := hd 11 12 (hw 11 (by kernel_rfl)) (by kernel_rfl)
    have e13 : a.tmps[13]?.getD undef = .agg #[.int .i64 28, .int .i64 1, .bool false] := hd 12 13 (hw 12 (by kernel_rfl)) (by kernel_rfl)
    refine sm_of hd g (by kernel_rfl) (each_made (v := .slice (some ⟨w'.heap.size, 0, none⟩) 12 12) (w1 := w'.alloc (.cells #[.int .i64 1, .int .i64 4, .bool true, .int .i64 5, .int .i64 4, .bool true, .int .i64 9, .int .i64 4, .bool true, .int .i64 13, .int .i64 2, .bool true, .int .i64 15, .int .i64 2, .bool true, .int .i64 17, .int .i64 2, .bool true, .int .i64 19, .int .i64 1, .bool false, .int .i64 20, .int .i64 1, .bool false, .int .i64 21, .int .i64 1, .bool false, .int .i64 22, .int .i64 2, .bool false, .int .i64 24, .int .i64 4, .bool false, .int .i64 28, .int .i64 1, .bool false] 107)) ?_ ((Grew.refl _).alloc _) ⟨_, _, rfl, by kernel_rfl, heap_alloc_new _ _⟩)
    clear hd hw hc ho
    simp [execOp, go_sem, e2, e3, e4, e5, e6, e7, e8, e9, e10, e11, e12, e13]
  · intro L a w' hL ho hw hc hd g
    obtain ⟨b, n, e1, hn, hb⟩ : SLeft 107 w sRows L (.inr (.inl (sfCells [1, -4, 5, -4, 9, -4, 13, -2, 15, -2, 17, -2, 19, 1, 20, 1, 21, 1, 22, 2, 24, 4, 28, 1]))) w' (a.tmps[14]?.getD undef) := hd 13 14 (hw 13 (by kernel_rfl)) (by kernel_rfl)
    refine sm_of hd g (by kernel_rfl) (each_call (f := 76) (args := #[.int .i64 41, .slice (some ⟨b, 0, none⟩) n n]) ?_ ((srp_kind 41 (some ⟨b, 0, none⟩) n n w').mono (fun e w'' q => ⟨_, q.1, ⟨b, n, rfl, hn, KKept.of_grew q.2 _ _ _ _ hb⟩, q.2⟩)))
    clear hd hw hc ho
    simp [go_sem, e1]
  · intro L a w' hL ho hw hc hd g
    exact sm_insert (k := ⟨15, 2, 0, 41, sfCells [1, -4, 5, -4, 9, -4, 13, -2, 15, -2, 17, -2, 19, 1, 20, 1, 21, 1, 22, 2, 24, 4, 28, 1]⟩) sRows_good (by simp [sRows]) rfl rfl rfl hL hd hc g (by kernel_rfl) rfl (by kernel_rfl) (hd 0 1 (hw 0 (by kernel_rfl)) (by kernel_rfl)) (hd 14 15 (hw 14 (by kernel_rfl)) (by kernel_rfl))
  · intro L a w' hL ho hw hc hd g
    exact sm_of hd g (by kernel_rfl) (each_call (f := 77) (args := #[.int .i64 1, .int .i64 2]) (by simp [go_sem]) ((srp_signed 1 2 w').mono (fun e w'' q => ⟨_, q.1, rfl, q.2⟩)))
  · intro L a w' hL ho hw hc hd g
    exact sm_of hd g (by kernel_rfl) (each_call (f := 78) (args := #[.int .i64 3, .int .i64 4]) (by simp [go_sem]) ((srp_unsigned 3 4 w').mono (fun e w'' q => ⟨_, q.1, rfl, q.2⟩)))
  · intro L a w' hL ho hw hc hd g
    exact sm_of hd g (by kernel_rfl) (each_call (f := 78) (args := #[.int .i64 7, .int .i64 1]) (by simp [go_sem]) ((srp_unsigned 7 1 w').mono (fun e w'' q => ⟨_, q.1, rfl, q.2⟩)))
  · intro L a w' hL ho hw hc hd g
    have e16 : a.tmps[16]?.getD undef = .agg #[.int .i64 1, .int .i64 2, .bool true] := hd 16 16 (hw 16 (by kernel_rfl)) (by kernel_rfl)
    have e17 : a.tmps[17]?.getD undef = .agg #[.int .i64 3, .int .i64 4, .bool false] := hd 17 17 (hw 17 (by kernel_rfl)) (by kernel_rfl)
    have e18 : a.tmps[18]?.getD undef = .agg #[.int .i64 7, .int .i64 1, .bool false] := hd 18 18 (hw 18 (by kernel_rfl)) (by kernel_rfl)
    refine sm_of hd g (by kernel_rfl) (each_made (v := .slice (some ⟨w'.heap.size, 0, none⟩) 3 3) (w1 := w'.alloc (.cells #[.int .i64 1, .int .i64 2, .bool true, .int .i64 3, .int .i64 4, .bool false, .int .i64 7, .int .i64 1, .bool false] 107)) ?_ ((Grew.refl _).alloc _) ⟨_, _, rfl, by kernel_rfl, heap_alloc_new _ _⟩)
    clear hd hw hc ho
    simp [execOp, go_sem, e16, e17, e18]
  · intro L a w' hL ho hw hc hd g
    obtain ⟨b, n, e1, hn, hb⟩ : SLeft 107 w sRows L (.inr (.inl (sfCells [1, -2, 3, 4, 7, 1]))) w' (a.tmps[19]?.getD undef) := hd 19 19 (hw 19 (by kernel_rfl)) (by kernel_rfl)
    refine sm_of hd g (by kernel_rfl) (each_call (f := 76) (args := #[.int .i64 188, .slice (some ⟨b, 0, none⟩) n n]) ?_ ((srp_kind 188 (some ⟨b, 0, none⟩) n n w').mono (fun e w'' q => ⟨_, q.1, ⟨b, n, rfl, hn, KKept.of_grew q.2 _ _ _ _ hb⟩, q.2⟩)))
    clear hd hw hc ho
    simp [go_sem, e1]
  · intro L a w' hL ho hw hc hd g
    exact sm_insert (k := ⟨21, 4, 0, 188, sfCells [1, -2, 3, 4, 7, 1]⟩) sRows_good (by simp [sRows]) rfl rfl rfl hL hd hc g (by kernel_rfl) rfl (by kernel_rfl) (hd 0 1 (hw 0 (by kernel_rfl)) (by kernel_rfl)) (hd 20 20 (hw 20 (by kernel_rfl)) (by kernel_rfl))
  · intro L a w' hL ho hw hc hd g
    exact sm_of hd g (by kernel_rfl) (each_call (f := 78) (args := #[.int .i64 1, .int .i64 2]) (by simp [go_sem]) ((srp_unsigned 1 2 w').mono (fun e w'' q => ⟨_, q.1, rfl, q.2⟩)))
  · intro L a w' hL ho hw hc hd g
    exact sm_of hd g (by kernel_rfl) (each_call (f := 78) (args := #[.int .i64 3, .int .i64 4]) (by simp [go_sem]) ((srp_unsigned 3 4 w').mono (fun e w'' q => ⟨_, q.1, rfl, q.2⟩)))
  · intro L a w' hL ho hw hc hd g
    exact sm_of hd g (by kernel_rfl) (each_call (f := 78) (args := #[.int .i64 7, .int .i64 1]) (by simp [go_sem]) ((srp_unsigned 7 1 w').mono (fun e w'' q => ⟨_, q.1, rfl, q.2⟩)))
  · intro L a w' hL ho hw hc hd g
    exact sm_of hd g (by kernel_rfl) (each_call (f := 78) (args := #[.int .i64 8, .int .i64 4]) (by simp [go_sem]) ((srp_unsigned 8 4 w').mono (fun e w'' q => ⟨_, q.1, rfl, q.2⟩)))
  · intro L a w' hL ho hw hc hd g
    exact sm_of hd g (by kernel_rfl) (each_call (f := 78) (args := #[.int .i64 12, .int .i64 4]) (by simp [go_sem]) ((srp_unsigned 12 4 w').mono (fun e w'' q => ⟨_, q.1, rfl, q.2⟩)))
  · intro L a w' hL ho hw hc hd g
    exact sm_of hd g (by kernel_rfl) (each_call (f := 78) (args := #[.int .i64 16, .int .i64 4]) (by simp [go_sem]) ((srp_unsigned 16 4 w').mono (fun e w'' q => ⟨_, q.1, rfl, q.2⟩)))
  · intro L a w' hL ho hw hc hd g
    have e21 : a.tmps[21]?.getD undef = .agg #[.int .i64 1, .int .i64 2, .bool false] := hd 22 21 (hw 22 (by kernel_rfl)) (by kernel_rfl)
    have e22 : a.tmps[22]?.getD undef = .agg #[.int .i64 3, .int .i64 4, .bool false] := hd 23 22 (hw 23 (by kernel_rfl)) (by kernel_rfl)
    have e23 : a.tmps[23]?.getD undef = .agg #[.int .i64 7, .int .i64 1, .bool false] := hd 24 23 (hw 24 (by kernel_rfl)) (by kernel_rfl)
    have e24 : a.tmps[24]?.getD undef = .agg #[.int .i64 8, .int .i64 4, .bool false] := hd 25 24 (hw 25 (by kernel_rfl)) (by kernel_rfl)
    have e25 : a.tmps[25]?.getD undef = .agg #[.int .i64 12, .int .i64 4, .bool false] := hd 26 25 (hw 26 (by kernel_rfl)) (by kernel_rfl)
    have e26 : a.tmps[26]?.getD undef = .agg #[.int .i64 16, .int .i64 4, .bool false] := hd 27 26 (hw 27 (by kernel_rfl)) (by kernel_rfl)
    refine sm_of hd g (by kernel_rfl) (each_made (v := .slice (some ⟨w'.heap.size, 0, none⟩) 6 6) (w1 := w'.alloc (.cells #[.int .i64 1, .int .i64 2, .bool false, .int .i64 3, .int .i64 4, .bool false, .int .i64 7, .int .i64 1, .bool false, .int .i64 8, .int .i64 4, .bool false, .int .i64 12, .int .i64 4, .bool false, .int .i64 16, .int .i64 4, .bool false] 107)) ?_ ((Grew.refl _).alloc _) ⟨_, _, rfl, by kernel_rfl, heap_alloc_new _ _⟩)
    clear hd hw hc ho
    simp [execOp, go_sem, e21, e22, e23, e24, e25, e26]
  · intro L a w' hL ho hw hc hd g
    obtain ⟨b, n, e1, hn, hb⟩ : SLeft 107 w sRows L (.inr (.inl (sfCells [1, 2, 3, 4, 7, 1, 8, 4, 12, 4, 16, 4]))) w' (a.tmps[27]?.getD undef) := hd 28 27 (hw 28 (by kernel_rfl)) (by kernel_rfl)
    refine sm_of hd g (by kernel_rfl) (each_call (f := 76) (args := #[.int .i64 20, .slice (some ⟨b, 0, none⟩) n n]) ?_ ((srp_kind 20 (some ⟨b, 0, none⟩) n n w').mono (fun e w'' q => ⟨_, q.1, ⟨b, n, rfl, hn, KKept.of_grew q.2 _ _ _ _ hb⟩, q.2⟩)))
    clear hd hw hc ho
    simp [go_sem, e1]
  · intro L a w' hL ho hw hc hd g
    exact sm_insert (k := ⟨30, 7, 0, 20, sfCells [1, 2, 3, 4, 7, 1, 8, 4, 12, 4, 16, 4]⟩) sRows_good (by simp [sRows]) rfl rfl rfl hL hd hc g (by kernel_rfl) rfl (by kernel_rfl) (hd 0 1 (hw 0 (by kernel_rfl)) (by kernel_rfl)) (hd 29 28 (hw 29 (by kernel_rfl)) (by kernel_rfl))
  · intro L a w' hL ho hw hc hd g
    exact sm_of hd g (by kernel_rfl) (each_call (f := 78) (args := #[.int .i64 1, .int .i64 2]) (by simp [go_sem]) ((srp_unsigned 1 2 w').mono (fun e w'' q => ⟨_, q.1, rfl, q.2⟩)))
  · intro L a w' hL ho hw hc hd g
    exact sm_of hd g (by kernel_rfl) (each_call (f := 78) (args := #[.int .i64 3, .int .i64 2]) (by simp [go_sem]) ((srp_unsigned 3 2 w').mono (fun e w'' q => ⟨_, q.1, rfl, q.2⟩)))
  · intro L a w' hL ho hw hc hd g
    exact sm_of hd g (by kernel_rfl) (each_call (f := 78) (args := #[.int .i64 5, .int .i64 2]) (by simp [go_sem]) ((srp_unsigned 5 2 w').mono (fun e w'' q => ⟨_, q.1, rfl, q.2⟩)))
  · intro L a w' hL ho hw hc hd g
    exact sm_of hd g (by kernel_rfl) (each_call (f := 78) (args := #[.int .i64 7, .int .i64 4]) (by simp [go_sem]) ((srp_unsigned 7 4 w').mono (fun e w'' q => ⟨_, q.1, rfl, q.2⟩)))
  · intro L a w' hL ho hw hc hd g
    exact sm_of hd g (by kernel_rfl) (each_call (f := 78) (args := #[.int .i64 11, .int .i64 2]) (by simp [go_sem]) ((srp_unsigned 11 2 w').mono (fun e w'' q => ⟨_, q.1, rfl, q.2⟩)))
  · intro L a w' hL ho hw hc hd g
    exact sm_of hd g (by kernel_rfl) (each_call (f := 78) (args := #[.int .i64 13, .int .i64 1]) (by simp [go_sem]) ((srp_unsigned 13 1 w').mono (fun e w'' q => ⟨_, q.1, rfl, q.2⟩)))
  · intro L a w' hL ho hw hc hd g
    exact sm_of hd g (by kernel_rfl) (each_call (f := 78) (args := #[.int .i64 14, .int .i64 1]) (by simp [go_sem]) ((srp_unsigned 14 1 w').mono (fun e w'' q => ⟨_, q.1, rfl, q.2⟩)))
  · intro L a w' hL ho hw hc hd g
    exact sm_of hd g (by kernel_rfl) (each_call (f := 78) (args := #[.int .i64 15, .int .i64 1]) (by simp [go_sem]) ((srp_unsigned 15 1 w').mono (fun e w'' q => ⟨_, q.1, rfl, q.2⟩)))
  · intro L a w' hL ho hw hc hd g
    exact sm_of hd g (by kernel_rfl) (each_call (f := 78) (args := #[.int .i64 16, .int .i64 1]) (by simp [go_sem]) ((srp_unsigned 16 1 w').mono (fun e w'' q => ⟨_, q.1, rfl, q.2⟩)))
  · intro L a w' hL ho hw hc hd g
    exact sm_of hd g (by kernel_rfl) (each_call (f := 78) (args := #[.int .i64 17, .int .i64 2]) (by simp [go_sem]) ((srp_unsigned 17 2 w').mono (fun e w'' q => ⟨_, q.1, rfl, q.2⟩)))
  · intro L a w' hL ho hw hc hd g
    have e29 : a.tmps[29]?.getD undef = .agg #[.int .i64 1, .int .i64 2, .bool false] := hd 31 29 (hw 31 (by kernel_rfl)) (by kernel_rfl)
    have e30 : a.tmps[30]?.getD undef = .agg #[.int .i64 3, .int .i64 2, .bool false] := hd 32 30 (hw 32 (by kernel_rfl)) (by kernel_rfl)
    have e31 : a.tmps[31]?.getD undef = .agg #[.int .i64 5, .int .i64 2, .bool false] := hd 33 31 (hw 33 (by kernel_rfl)) (by kernel_rfl)
    have e32 : a.tmps[32]?.getD undef = .agg #[.int .i64 7, .int .i64 4, .bool false] := hd 34 32 (hw 34 (by kernel_rfl)) (by kernel_rfl)
    have e33 : a.tmps[33]?.getD undef = .agg #[.int .i64 11, .int .i64 2, .bool false] := hd 35 33 (hw 35 (by kernel_rfl)) (by kernel_rfl)
    have e34 : a.tmps[34]?.getD undef = .agg #[.int .i64 13, .int .i64 1, .bool false] := hd 36 34 (hw 36 (by kernel_rfl)) (by kernel_rfl)
    have e35 : a.tmps[35]?.getD undef = .agg #[.int .i64 14, .int .i64 1, .bool false] := hd 37 35 (hw 37 (by kernel_rfl)) (by kernel_rfl)
    have e36 : a.tmps[36]?.getD undef = .agg #[.int .i64 15, .int .i64 1, .bool false] := hd 38 36 (hw 38 (by kernel_rfl)) (by kernel_rfl)
    have e37 : a.tmps[37]?.getD undef = .agg #[.int .i64 16, .int .i64 1, .bool false] := hd 39 37 (hw 39 (by kernel_rfl)) (by kernel_rfl)
    have e38 : a.tmps[38]?.getD undef = .agg #[.int .i64 17, .int .i64 2, .bool false] := hd 40 38 (hw 40 (by kernel_rfl)) (by kernel_rfl)
    refine sm_of hd g (by kernel_rfl) (each_made (v := .slice (some ⟨w'.heap.size, 0, none⟩) 10 10) (w1 := w'.alloc (.cells #[.int .i64 1, .int .i64 2, .bool false, .int .i64 3, .int .i64 2, .bool false, .int .i64 5, .int .i64 2, .bool false, .int .i64 7, .int .i64 4, .bool false, .int .i64 11, .int .i64 2, .bool false, .int .i64 13, .int .i64 1, .bool false, .int .i64 14, .int .i64 1, .bool false, .int .i64 15, .int .i64 1, .bool false, .int .i64 16, .int .i64 1, .bool false, .int .i64 17, .int .i64 2, .bool false] 107)) ?_ ((Grew.refl _).alloc _) ⟨_, _, rfl, by kernel_rfl, heap_alloc_new _ _⟩)
    clear hd hw hc ho
    simp [execOp, go_sem, e29, e30, e31, e32, e33, e34, e35, e36, e37, e38]
  · intro L a w' hL ho hw hc hd g
    obtain ⟨b, n, e1, hn, hb⟩ : SLeft 107 w sRows L (.inr (.inl (sfCells [1, 2, 3, 2, 5, 2, 7, 4, 11, 2, 13, 1, 14, 1, 15, 1, 16, 1, 17, 2]))) w' (a.tmps[39]?.getD undef) := hd 41 39 (hw 41 (by kernel_rfl)) (by kernel_rfl)
    refine sm_of hd g (by kernel_rfl) (each_call (f := 76) (args := #[.int .i64 91, .slice (some ⟨b, 0, none⟩) n n]) ?_ ((srp_kind 91 (some ⟨b, 0, none⟩) n n w').mono (fun e w'' q => ⟨_, q.1, ⟨b, n, rfl, hn, KKept.of_grew q.2 _ _ _ _ hb⟩, q.2⟩)))
    clear hd hw hc ho
    simp [go_sem, e1]
  · intro L a w' hL ho hw hc hd g
    exact sm_insert (k := ⟨43, 41, 0, 91, sfCells [1, 2, 3, 2, 5, 2, 7, 4, 11, 2, 13, 1, 14, 1, 15, 1, 16, 1, 17, 2]⟩) sRows_good (by simp [sRows]) rfl rfl rfl hL hd hc g (by kernel_rfl) rfl (by kernel_rfl) (hd 0 1 (hw 0 (by kernel_rfl)) (by kernel_rfl)) (hd 42 40 (hw 42 (by kernel_rfl)) (by kernel_rfl))
  · intro L a w' hL ho hw hc hd g
    exact sm_of hd g (by kernel_rfl) (each_call (f := 78) (args := #[.int .i64 1, .int .i64 1]) (by simp [go_sem]) ((srp_unsigned 1 1 w').mono (fun e w'' q => ⟨_, q.1, rfl, q.2⟩)))
  · intro L a w' hL ho hw hc hd g
    exact sm_of hd g (by kernel_rfl) (each_call (f := 78) (args := #[.int .i64 2, .int .i64 1]) (by simp [go_sem]) ((srp_unsigned 2 1 w').mono (fun e w'' q => ⟨_, q.1, rfl, q.2⟩)))
  · intro L a w' hL ho hw hc hd g
    exact sm_of hd g (by kernel_rfl) (each_call (f := 78) (args := #[.int .i64 3, .int .i64 1]) (by simp [go_sem]) ((srp_unsigned 3 1 w').mono (fun e w'' q => ⟨_, q.1, rfl, q.2⟩)))
  · intro L a w' hL ho hw hc hd g
    exact sm_of hd g (by kernel_rfl) (each_call (f := 78) (args := #[.int .i64 4, .int .i64 1]) (by simp [go_sem]) ((srp_unsigned 4 1 w').mono (fun e w'' q => ⟨_, q.1, rfl, q.2⟩)))
  · intro L a w' hL ho hw hc hd g
    exact sm_of hd g (by kernel_rfl) (each_call (f := 78) (args := #[.int .i64 5, .int .i64 1]) (by simp [go_sem]) ((srp_unsigned 5 1 w').mono (fun e w'' q => ⟨_, q.1, rfl, q.2⟩)))
  · intro L a w' hL ho hw hc hd g
    exact sm_of hd g (by kernel_rfl) (each_call (f := 78) (args := #[.int .i64 6, .int .i64 2]) (by simp [go_sem]) ((srp_unsigned 6 2 w').mono (fun e w'' q => ⟨_, q.1, rfl, q.2⟩)))
  · intro L a w' hL ho hw hc hd g
    exact sm_of hd g (by kernel_rfl) (each_call (f := 77) (args := #[.int .i64 8, .int .i64 2]) (by simp [go_sem]) ((srp_signed 8 2 w').mono (fun e w'' q => ⟨_, q.1, rfl, q.2⟩)))
  · intro L a w' hL ho hw hc hd g
    exact sm_of hd g (by kernel_rfl) (each_call (f := 78) (args := #[.int .i64 10, .int .i64 4]) (by simp [go_sem]) ((srp_unsigned 10 4 w').mono (fun e w'' q => ⟨_, q.1, rfl, q.2⟩)))
  · intro L a w' hL ho hw hc hd g
    exact sm_of hd g (by kernel_rfl) (each_call (f := 78) (args := #[.int .i64 14, .int .i64 1]) (by simp [go_sem]) ((srp_unsigned 14 1 w').mono (fun e w'' q => ⟨_, q.1, rfl, q.2⟩)))
  · intro L a w' hL ho hw hc hd g
    have e41 : a.tmps[41]?.getD undef = .agg #[.int .i64 1, .int .i64 1, .bool false] := hd 44 41 (hw 44 (by kernel_rfl)) (by kernel_rfl)
    have e42 : a.tmps[42]?.getD undef = .agg #[.int .i64 2, .int .i64 1, .bool false] := hd 45 42 (hw 45 (by kernel_rfl)) (by kernel_rfl)
    have e43 : a.tmps[43]?.getD undef = .agg #[.int .i64 3, .int .i64 1, .bool false] := hd 46 43 (hw 46 (by kernel_rfl)) (by kernel_rfl)
    have e44 : a.tmps[44]?.getD undef = .agg #[.int .i64 4, .int .i64 1, .bool false] := hd 47 44 (hw 47 (by kernel_rfl)) (by kernel_rfl)
    have e45 : a.tmps[45]?.getD undef = .agg #[.int .i64 5, .int .i64 1, .bool false] := hd 48 45 (hw 48 (by kernel_rfl)) (by kernel_rfl)
    have e46 : a.tmps[46]?.getD undef = .agg #[.int .i64 6, .int .i64 2, .bool false] := hd 49 46 (hw 49 (by kernel_rfl)) (by kernel_rfl)
    have e47 : a.tmps[47]?.getD undef = .agg #[.int .i64 8, .int .i64 2, .bool true] := hd 50 47 (hw 50 (by kernel_rfl)) (by kernel_rfl)
    have e48 : a.tmps[48]?.getD undef = .agg #[.int .i64 10, .int .i64 4, .bool false] := hd 51 48 (hw 51 (by kernel_rfl)) (by kernel_rfl)
    have e49 : a.tmps[49]?.getD undef = .agg #[.int .i64 14, .int .i64 1, .bool false] := hd 52 49 (hw 52 (by kernel_rfl)) (by kernel_rfl)
    refine sm_of hd g (by kernel_rfl) (each_made (v := .slice (some ⟨w'.heap.size, 0, none⟩) 9 9) (w1 := w'.alloc (.cells #[.int .i64 1, .int .i64 1, .bool false, .int .i64 2, .int .i64 1, .bool false, .int .i64 3, .int .i64 1, .bool false, .int .i64 4, .int .i64 1, .bool false, .int .i64 5, .int .i64 1, .bool false, .int .i64 6, .int .i64 2, .bool false, .int .i64 8, .int .i64 2, .bool true, .int .i64 10, .int .i64 4, .bool false, .int .i64 14, .int .i64 1, .bool false] 107)) ?_ ((Grew.refl _).alloc _) ⟨_, _, rfl, by kernel_rfl, heap_alloc_new _ _⟩)
    clear hd hw hc ho
    simp [execOp, go_sem, e41, e42, e43, e44, e45, e46, e47, e48, e49]
  · intro L a w' hL ho hw hc hd g
    obtain ⟨b, n, e1, hn, hb⟩ : SLeft 107 w sRows L (.inr (.inl (sfCells [1, 1, 2, 1, 3, 1, 4, 1, 5, 1, 6, 2, 8, -2, 10, 4, 14, 1]))) w' (a.tmps[50]?.getD undef) := hd 53 50 (hw 53 (by kernel_rfl)) (by kernel_rfl)
    refine sm_of hd g (by kernel_rfl) (each_call (f := 76) (args := #[.int .i64 19, .slice (some ⟨b, 0, none⟩) n n]) ?_ ((srp_kind 19 (some ⟨b, 0, none⟩) n n w').mono (fun e w'' q => ⟨_, q.1, ⟨b, n, rfl, hn, KKept.of_grew q.2 _ _ _ _ hb⟩, q.2⟩)))
    clear hd hw hc ho
    simp [go_sem, e1]
  · intro L a w' hL ho hw hc hd g
    exact sm_insert (k := ⟨55, 52, 0, 19, sfCells [1, 1, 2, 1, 3, 1, 4, 1, 5, 1, 6, 2, 8, -2, 10, 4, 14, 1]⟩) sRows_good (by simp [sRows]) rfl rfl rfl hL hd hc g (by kernel_rfl) rfl (by kernel_rfl) (hd 0 1 (hw 0 (by kernel_rfl)) (by kernel_rfl)) (hd 54 51 (hw 54 (by kernel_rfl)) (by kernel_rfl))
  · intro L a w' hL ho hw hc hd g
    exact sm_of hd g (by kernel_rfl) (each_call (f := 78) (args := #[.int .i64 1, .int .i64 1]) (by simp [go_sem]) ((srp_unsigned 1 1 w').mono (fun e w'' q => ⟨_, q.1, rfl, q.2⟩)))
  · intro L a w' hL ho hw hc hd g
    have e52 : a.tmps[52]?.getD undef = .agg #[.int .i64 1, .int .i64 1, .bool false] := hd 56 52 (hw 56 (by kernel_rfl)) (by kernel_rfl)
    refine sm_of hd g (by kernel_rfl) (each_made (v := .slice (some ⟨w'.heap.size, 0, none⟩) 1 1) (w1 := w'.alloc (.cells #[.int .i64 1, .int .i64 1, .bool false] 107)) ?_ ((Grew.refl _).alloc _) ⟨_, _, rfl, by kernel_rfl, heap_alloc_new _ _⟩)
    clear hd hw hc ho
    simp [execOp, go_sem, e52]
  · intro L a w' hL ho hw hc hd g
    obtain ⟨b, n, e1, hn, hb⟩ : SLeft 107 w sRows L (.inr (.inl (sfCells [1, 1]))) w' (a.tmps[53]?.getD undef) := hd 57 53 (hw 57 (by kernel_rfl)) (by kernel_rfl)
    refine sm_of hd g (by kernel_rfl) (each_call (f := 76) (args := #[.int .i64 2, .slice (some ⟨b, 0, none⟩) n n]) ?_ ((srp_kind 2 (some ⟨b, 0, none⟩) n n w').mono (fun e w'' q => ⟨_, q.1, ⟨b, n, rfl, hn, KKept.of_grew q.2 _ _ _ _ hb⟩, q.2⟩)))
    clear hd hw hc ho
    simp [go_sem, e1]
  · intro L a w' hL ho hw hc hd g
    exact sm_insert (k := ⟨59, 11, 0, 2, sfCells [1, 1]⟩) sRows_good (by simp [sRows]) rfl rfl rfl hL hd hc g (by kernel_rfl) rfl (by kernel_rfl) (hd 0 1 (hw 0 (by kernel_rfl)) (by kernel_rfl)) (hd 58 54 (hw 58 (by kernel_rfl)) (by kernel_rfl))
  · intro L a w' hL ho hw hc hd g
    exact sm_of hd g (by kernel_rfl) (each_call (f := 78) (args := #[.int .i64 1, .int .i64 1]) (by simp [go_sem]) ((srp_unsigned 1 1 w').mono (fun e w'' q => ⟨_, q.1, rfl, q.2⟩)))
  · intro L a w' hL ho hw hc hd g
    have e55 : a.tmps[55]?.getD undef = .agg #[.int .i64 1, .int .i64 1, .bool false] := hd 60 55 (hw 60 (by kernel_rfl)) (by kernel_rfl)
    refine sm_of hd g (by kernel_rfl) (each_made (v := .slice (some ⟨w'.heap.size, 0, none⟩) 1 1) (w1 := w'.alloc (.cells #[.int .i64 1, .int .i64 1, .bool false] 107)) ?_ ((Grew.refl _).alloc _) ⟨_, _, rfl, by kernel_rfl, heap_alloc_new _ _⟩)
    clear hd hw hc ho
    simp [execOp, go_sem, e55]
  · intro L a w' hL ho hw hc hd g
    obtain ⟨b, n, e1, hn, hb⟩ : SLeft 107 w sRows L (.inr (.inl (sfCells [1, 1]))) w' (a.tmps[56]?.getD undef) := hd 61 56 (hw 61 (by kernel_rfl)) (by kernel_rfl)
    refine sm_of hd g (by kernel_rfl) (each_call (f := 76) (args := #[.int .i64 2, .slice (some ⟨b, 0, none⟩) n n]) ?_ ((srp_kind 2 (some ⟨b, 0, none⟩) n n w').mono (fun e w'' q => ⟨_, q.1, ⟨b, n, rfl, hn, KKept.of_grew q.2 _ _ _ _ hb⟩, q.2⟩)))
    clear hd hw hc ho
    simp [go_sem, e1]
  · intro L a w' hL ho hw hc hd g
    exact sm_insert (k := ⟨63, 12, 0, 2, sfCells [1, 1]⟩) sRows_good (by simp [sRows]) rfl rfl rfl hL hd hc g (by kernel_rfl) rfl (by kernel_rfl) (hd 0 1 (hw 0 (by kernel_rfl)) (by kernel_rfl)) (hd 62 57 (hw 62 (by kernel_rfl)) (by kernel_rfl))
  · intro L a w' hL ho hw hc hd g
    exact sm_of hd g (by kernel_rfl) (each_call (f := 78) (args := #[.int .i64 1, .int .i64 1]) (by simp [go_sem]) ((srp_unsigned 1 1 w').mono (fun e w'' q => ⟨_, q.1, rfl, q.2⟩)))
  · intro L a w' hL ho hw hc hd g
    exact sm_of hd g (by kernel_rfl) (each_call (f := 78) (args := #[.int .i64 2, .int .i64 1]) (by simp [go_sem]) ((srp_unsigned 2 1 w').mono (fun e w'' q => ⟨_, q.1, rfl, q.2⟩)))
  · intro L a w' hL ho hw hc hd g
    exact sm_of hd g (by kernel_rfl) (each_call (f := 78) (args := #[.int .i64 3, .int .i64 1]) (by simp [go_sem]) ((srp_unsigned 3 1 w').mono (fun e w'' q => ⟨_, q.1, rfl, q.2⟩)))
  · intro L a w' hL ho hw hc hd g
    have e58 : a.tmps[58]?.getD undef = .agg #[.int .i64 1, .int .i64 1, .bool false] := hd 64 58 (hw 64 (by kernel_rfl)) (by kernel_rfl)
    have e59 : a.tmps[59]?.getD undef = .agg #[.int .i64 2, .int .i64 1, .bool false] := hd 65 59 (hw 65 (by kernel_rfl)) (by kernel_rfl)
    have e60 : a.tmps[60]?.getD undef = .agg #[.int .i64 3, .int .i64 1, .bool false] := hd 66 60 (hw 66 (by kernel_rfl)) (by kernel_rfl)
    refine sm_of hd g (by kernel_rfl) (each_made (v := .slice (some ⟨w'.heap.size, 0, none⟩) 3 3) (w1 := w'.alloc (.cells #[.int .i64 1, .int .i64 1, .bool false, .int .i64 2, .int .i64 1, .bool false, .int .i64 3, .int .i64 1, .bool false] 107)) ?_ ((Grew.refl _).alloc _) ⟨_, _, rfl, by kernel_rfl, heap_alloc_new _ _⟩)
    clear hd hw hc ho
    simp [execOp, go_sem, e58, e59, e60]
  · intro L a w' hL ho hw hc hd g
    obtain ⟨b, n, e1, hn, hb⟩ : SLeft 107 w sRows L (.inr (.inl (sfCells [1, 1, 2, 1, 3, 1]))) w' (a.tmps[61]?.getD undef) := hd 67 61 (hw 67 (by kernel_rfl)) (by kernel_rfl)
    refine sm_of hd g (by kernel_rfl) (each_call (f := 76) (args := #[.int .i64 8, .slice (some ⟨b, 0, none⟩) n n]) ?_ ((srp_kind 8 (some ⟨b, 0, none⟩) n n w').mono (fun e w'' q => ⟨_, q.1, ⟨b, n, rfl, hn, KKept.of_grew q.2 _ _ _ _ hb⟩, q.2⟩)))
    clear hd hw hc ho
    simp [go_sem, e1]
  · intro L a w' hL ho hw hc hd g
    exact sm_insert (k := ⟨69, 166, 0, 8, sfCells [1, 1, 2, 1, 3, 1]⟩) sRows_good (by simp [sRows]) rfl rfl rfl hL hd hc g (by kernel_rfl) rfl (by kernel_rfl) (hd 0 1 (hw 0 (by kernel_rfl)) (by kernel_rfl)) (hd 68 62 (hw 68 (by kernel_rfl)) (by kernel_rfl))
  · intro L a w' hL ho hw hc hd g
    obtain ⟨m, e1, hm⟩ : SLeft 107 w sRows L (.inr (.inr (.inr ()))) w' (a.tmps[1]?.getD undef) := hd 0 1 (hw 0 (by kernel_rfl)) (by kernel_rfl)
    refine sm_of hd g (by kernel_rfl) (each_value (v := .map (some m)) ?_ ⟨m, rfl, hm.also (Grew.refl _) (fun k hk => by have := List.all_eq_true.1 (show sRows.all (fun k => k.at_ != 70) = true by kernel_rfl) k hk; simpa using this)⟩)
    clear hd hw hc ho
    simp [execOp, go_sem, e1]
  · intro L a w' hL ho hw hc hd g
    obtain ⟨m, e1, hm⟩ : SLeft 107 w sRows L (.inr (.inr (.inr ()))) w' (a.tmps[63]?.getD undef) := hd 70 63 (hw 70 (by kernel_rfl)) (by kernel_rfl)
    refine sm_of hd g (by kernel_rfl) (each_value (v := .map (some m)) ?_ ⟨m, rfl, hm.also (Grew.refl _) (fun k hk => by have := List.all_eq_true.1 (show sRows.all (fun k => k.at_ != 71) = true by kernel_rfl) k hk; simpa using this)⟩)
    clear hd hw hc ho
    simp [execOp, go_sem, e1]
end Go.Proofs.YtnhigfkhdmkoeaaGreatDoor

namespace Go.Proofs.YtnhigfkhdmkoeaaGreatDoor
open Go.RowKit
set_option linter.unusedVariables false

theorem sfCells_length : ∀ l : List Int, (sfCells l).length = 3 * (l.length / 2)
  | [] => by simp [sfCells]
  | [_] => by simp [sfCells]
  | p :: s :: r => by rw [sfCells, List.length_cons, List.length_cons, List.length_cons, sfCells_length r, List.length_cons, List.length_cons]; omega
theorem szi_cons2 (p s : Int) (r : List Int) (i : Nat) : zi (p :: s :: r) (i + 2) = zi r i := rfl
theorem sfCells_at : ∀ (l : List Int) (k : Nat), 2 * k + 1 < l.length → (sfCells l)[k * 3]? = some (.int .i64 (zi l (2 * k))) ∧ (sfCells l)[k * 3 + 1]? = some (.int .i64 ((zi l (2 * k + 1)).natAbs : Nat)) ∧ (sfCells l)[k * 3 + 2]? = some (.bool (decide (zi l (2 * k + 1) < 0)))
  | [], k, h => by simp at h
  | [_], k, h => by simp at h
  | p :: s :: r, 0, _ => by simp [sfCells, zi]
  | p :: s :: r, k + 1, h => by
    have ih := sfCells_at r k (by simp at h; omega)
    rw [show 2 * (k + 1) = 2 * k + 2 from rfl, show 2 * k + 2 + 1 = (2 * k + 1) + 2 by omega, szi_cons2, szi_cons2, sfCells, show (k + 1) * 3 = (k * 3) + 1 + 1 + 1 by omega]
    simpa using ih
/-- A kind's layout as it stands. -/
def SLayAt (w : World) (v : Value) (c : Nat) : Prop :=
  ∃ (A : Option Addr) (cap : Nat), v = .agg #[.int .i64 ((srfLay c).1 : Nat), .slice A ((srfLay c).2.length / 2) cap] ∧
    (∀ k, 2 * k + 1 < (srfLay c).2.length → ∃ b, A = some ⟨b, 0, none⟩ ∧ b < w.heap.size ∧ w.cell? ⟨b, k * 3, none⟩ = some (.int .i64 (zi (srfLay c).2 (2 * k))) ∧ w.cell? ⟨b, k * 3 + 1, none⟩ = some (.int .i64 ((zi (srfLay c).2 (2 * k + 1)).natAbs : Nat)) ∧ w.cell? ⟨b, k * 3 + 2, none⟩ = some (.bool (decide (zi (srfLay c).2 (2 * k + 1) < 0))))
theorem sRows_is : ∀ k ∈ sRows, k.a < 256 ∧ k.len = (srfLay k.a).1 ∧ k.cs = sfCells (srfLay k.a).2 ∧ (srfLay k.a).1 ≠ 0 := by
  unfold sRows
  intro k hk
  simp only [List.mem_cons, List.not_mem_nil, or_false] at hk
  rcases hk with rfl | rfl | rfl | rfl | rfl | rfl | rfl | rfl <;> exact ⟨by decide, by kernel_rfl, by kernel_rfl, by decide⟩
theorem sRows_has (a : Nat) (h : (srfLay a).1 ≠ 0) : ∃ k ∈ sRows, k.a = a := by
  by_cases q : isSrf a
  · have hany : ∀ (x : Nat), x = a → (sRows.any fun k => k.a == x) = true → ∃ k ∈ sRows, k.a = a := fun x hx h => by
      obtain ⟨k, hk, he⟩ := List.any_eq_true.1 h
      simp only [beq_iff_eq] at he
      exact ⟨k, hk, he.trans hx⟩
    unfold isSrf at q
    rcases q with q | q | q | q | q | q | q | q
    · exact hany 2 q.symm (by kernel_rfl)
    · exact hany 4 q.symm (by kernel_rfl)
    · exact hany 7 q.symm (by kernel_rfl)
    · exact hany 41 q.symm (by kernel_rfl)
    · exact hany 52 q.symm (by kernel_rfl)
    · exact hany 11 q.symm (by kernel_rfl)
    · exact hany 12 q.symm (by kernel_rfl)
    · exact hany 166 q.symm (by kernel_rfl)
  · rw [srf_no q] at h
    exact absurd rfl h
theorem skey_inj {a b : Nat} (h : Value.int .u8 (a : Nat) = .int .u8 (b : Nat)) : a = b := by
  simp at h
  omega
/-- A kind's layout as it stands, by its block. -/
def SLayH (w : World) (v : Value) (c : Nat) : Prop :=
  ∃ (A : Option Addr) (cap : Nat), v = .agg #[.int .i64 ((srfLay c).1 : Nat), .slice A ((srfLay c).2.length / 2) cap] ∧
    (1 < (srfLay c).2.length → ∃ b, A = some ⟨b, 0, none⟩ ∧ w.heap[b]? = some (.cells (sfCells (srfLay c).2).toArray 107))
theorem SLayH.at_ {w : World} {v : Value} {c : Nat} (h : SLayH w v c) : SLayAt w v c := by
  obtain ⟨A, cap, rfl, hb⟩ := h
  refine ⟨A, cap, rfl, fun j hj => ?_⟩
  obtain ⟨fb, rfl, hblk⟩ := hb (by omega)
  refine ⟨fb, rfl, (Array.getElem?_eq_some_iff.1 hblk).1, ?_⟩
  have hc := sfCells_at _ j hj
  rw [cell_of_row w fb _ _ _ _ hblk, cell_of_row w fb _ _ _ _ hblk, cell_of_row w fb _ _ _ _ hblk]
  simpa using hc
theorem skinds_hitH (w : World) (v : Value) (h : SKindsAt w v) (a : Nat) (ha : a < 256) (hn : (srfLay a).1 ≠ 0) :
    ∃ lv, (Instr.lookup 104 v ((.int .u8 (a : Nat))) true).run Tryz.prog w = .ok (.tuple #[lv, .bool true]) w ∧ SLayH w lv a := by
  obtain ⟨m, es, clk, rfl, hm, h1, h2⟩ := h
  obtain ⟨k, hk, rfl⟩ := sRows_has a hn
  obtain ⟨e0, he0, hk0⟩ := h2 k hk
  obtain ⟨e, he, hkey, hrun⟩ := srun_hit w m k.a es clk hm (fun e he => by obtain ⟨k', _, hx, _⟩ := h1 e he; exact ⟨k'.a, hx⟩) ⟨e0, he0, hk0.1⟩
  refine ⟨e.val, hrun, ?_⟩
  obtain ⟨k', hk', hx, fb, n, hval, hlen, hblk⟩ := h1 e he
  have q1 := skey_inj (hx.symm.trans hkey)
  obtain ⟨_, i1, i2, _⟩ := sRows_is k' hk'
  rw [q1] at i1 i2
  rw [i2, sfCells_length, Nat.mul_div_cancel_left _ (by decide)] at hlen
  subst hlen
  rw [i2] at hblk
  exact ⟨some ⟨fb, 0, none⟩, _, by rw [hval, i1], fun _ => ⟨fb, rfl, hblk⟩⟩
theorem skinds_hit (w : World) (v : Value) (h : SKindsAt w v) (a : Nat) (ha : a < 256) (hn : (srfLay a).1 ≠ 0) :
    ∃ lv, (Instr.lookup 104 v ((.int .u8 (a : Nat))) true).run Tryz.prog w = .ok (.tuple #[lv, .bool true]) w ∧ SLayAt w lv a := by
  obtain ⟨lv, h1, h2⟩ := skinds_hitH w v h a ha hn
  exact ⟨lv, h1, h2.at_⟩
theorem skinds_miss (w : World) (v : Value) (h : SKindsAt w v) (a : Nat) (hn : (srfLay a).1 = 0) :
    (Instr.lookup 104 v ((.int .u8 (a : Nat))) true).run Tryz.prog w = .ok (.tuple #[.agg #[.int .i64 0, .slice none 0 0], .bool false]) w := by
  obtain ⟨m, es, clk, rfl, hm, h1, h2⟩ := h
  refine srun_miss w m a es clk hm fun e he => ?_
  obtain ⟨k', hk', hx, _⟩ := h1 e he
  refine ⟨k'.a, hx, fun q => ?_⟩
  have := (sRows_is k' hk').2.2.2
  rw [← q] at this
  exact absurd hn this
theorem SLayAt.far {F : Nat → Prop} {w w' : World} {v : Value} {c : Nat} (h : SLayAt w v c) (g : Far F w w') (hF : ∀ b, b < w.heap.size → ¬ F b) : SLayAt w' v c := by
  obtain ⟨A, cap, rfl, hc⟩ := h
  refine ⟨A, cap, rfl, fun k hk => ?_⟩
  obtain ⟨b, rfl, hb, c0, c1, c2⟩ := hc k hk
  exact ⟨b, rfl, Nat.lt_of_lt_of_le hb g.size, (g.cell (p := ⟨b, k * 3, none⟩) hb (hF b hb)).trans c0, (g.cell (p := ⟨b, k * 3 + 1, none⟩) hb (hF b hb)).trans c1, (g.cell (p := ⟨b, k * 3 + 2, none⟩) hb (hF b hb)).trans c2⟩
theorem SLayAt.grew {w w' : World} {v : Value} {c : Nat} (h : SLayAt w v c) (g : Grew w w') : SLayAt w' v c := h.far (F := fun _ => False) (Far.of_grew g) (fun _ _ q => q)
theorem slay_no {c : Nat} (h : (srfLay c).1 = 0) : srfLay c = (0, []) := by
  by_cases q : isSrf c
  · unfold isSrf at q
    rcases q with rfl | rfl | rfl | rfl | rfl | rfl | rfl | rfl <;> exact absurd h (by decide)
  · exact srf_no q
/-- A key looked up, whether it is there or not. -/
theorem skinds_look (w : World) (v : Value) (h : SKindsAt w v) (a : Nat) (ha : a < 256) :
    ∃ lv, (Instr.lookup 104 v ((.int .u8 (a : Nat))) true).run Tryz.prog w = .ok (.tuple #[lv, .bool (decide ((srfLay a).1 ≠ 0))]) w ∧ SLayH w lv a := by
  by_cases hn : (srfLay a).1 = 0
  · refine ⟨_, by rw [skinds_miss w v h a hn, hn]; rfl, none, 0, by rw [slay_no hn]; rfl, fun q => ?_⟩
    rw [slay_no hn] at q
    exact absurd q (by decide)
  · obtain ⟨lv, h1, h2⟩ := skinds_hitH w v h a ha hn
    exact ⟨lv, by rw [h1, decide_eq_true hn], h2⟩
theorem SKindsAt.grew {w w' : World} {v : Value} (h : SKindsAt w v) (g : Grew w w') : SKindsAt w' v := by
  obtain ⟨m, es, clk, rfl, hm, h1, h2⟩ := h
  refine ⟨m, es, clk, rfl, (Below.block g m (Array.getElem?_eq_some_iff.1 hm).1).trans hm, fun e he => ?_, fun k hk => ?_⟩
  · obtain ⟨k, hk, hx⟩ := h1 e he
    exact ⟨k, hk, hx.kept (.of_grew g)⟩
  · obtain ⟨e, he, hx⟩ := h2 k hk
    exact ⟨e, he, hx.kept (.of_grew g)⟩
theorem SLayH.kept {w w' : World} {v : Value} {c : Nat} (h : SLayH w v c) (g : ∀ (b : Nat) (cs : Array Value), w.heap[b]? = some (.cells cs 107) → w'.heap[b]? = some (.cells cs 107)) : SLayH w' v c := by
  obtain ⟨A, cap, rfl, hb⟩ := h
  refine ⟨A, cap, rfl, fun hl => ?_⟩
  obtain ⟨b, e, hx⟩ := hb hl
  exact ⟨b, e, g _ _ hx⟩
end Go.Proofs.YtnhigfkhdmkoeaaGreatDoor

namespace Go.Proofs.YtnhigfkhdmkoeaaGreatDoor
open Go.RowKit
set_option linter.unusedVariables false

/-- The number that the k bytes from a place on make, highest byte first. -/
def numB (S : List Nat) (p : Nat) : Nat → Nat
  | 0 => 0
  | k + 1 => numB S p k * 256 + wd S (p + k)
theorem numB_lt (S : List Nat) (p : Nat) (hB : Bytes S) : ∀ k, numB S p k < 256 ^ k
  | 0 => by simp [numB]
  | k + 1 => by
    have := numB_lt S p hB k
    have := hB (p + k)
    rw [numB, Nat.pow_succ]
    omega
theorem numB_head (S : List Nat) (p : Nat) : ∀ k, numB S p (k + 1) = wd S p * 256 ^ k + numB S (p + 1) k
  | 0 => by simp [numB]
  | k + 1 => by
    rw [numB, numB_head S p k, numB, Nat.pow_succ, show p + (k + 1) = p + 1 + k by omega]
    rw [show wd S p * (256 ^ k * 256) = wd S p * 256 ^ k * 256 from (Nat.mul_assoc _ _ _).symm]
    generalize wd S p * 256 ^ k = x
    omega
theorem numB_turn (T S : List Nat) : ∀ (m p : Nat), (∀ j, j < m → wd T j = wd S (p + (m - 1 - j))) → numLE T 0 m = numB S p m
  | 0, _, _ => rfl
  | m + 1, p, h => by
    have e : numLE T 0 (m + 1) = numLE T 0 m + wd T (0 + m) * 256 ^ m := rfl
    rw [e, numB_head, numB_turn T S m (p + 1) (fun j hj => by rw [h j (by omega)]; congr 1; omega), Nat.zero_add, h m (by omega), show p + (m + 1 - 1 - m) = p by omega]
    omega
theorem numB_is (S : List Nat) (p m : Nat) : numLE (turnTo S p m m) 0 m = numB S p m := numB_turn _ _ _ _ (fun j hj => turnTo_wd _ _ _ _ _ hj)
theorem shl_byte (n x : Nat) (k : Nat) (hk : k < 4) (hn : n < 256 ^ k) (hx : x < 256) : bits .or .i64 (wrap64 ((n : Int) * 256)) (x : Int) = ((n * 256 + x : Nat) : Int) := by
  have hp : 256 ^ k ≤ 256 ^ 3 := Nat.pow_le_pow_right (by decide) (by omega)
  have hp' : (256 : Nat) ^ 3 = 16777216 := by decide
  have e : (n : Int) * 256 = ((n * 256 : Nat) : Int) := by omega
  rw [e, IntWalk.wrap64_in _ (by omega), bits_or_i64 _ _ (by omega) (by omega)]
  have h : x < 2 ^ 8 := hx
  have := Nat.two_pow_add_eq_or_of_lt h n
  rw [show n * 256 = 2 ^ 8 * n by omega, ← this]
-- [READ
set_option maxRecDepth 100000 in
set_option maxHeartbeats 2000000 in
theorem srp_read (v : Value) (S : List Nat) (p m : Nat) (neg : Bool) (w : World) (hr : Row .u8 w v S) (hB : Bytes S) (hp : p + m ≤ S.length) (hm : 0 < m ∧ m ≤ 4) (hl : S.length ≤ 100000) :
    Calls Tryz.prog 55 #[.agg #[.int .i64 (p : Nat), .int .i64 (m : Nat), .bool neg], v] w fun e w' => e = .returned (.int .i64 (getB S p (if neg then -(m : Int) else (m : Int)))) ∧ Grew w w' := by
  have HN := Lib.hid (fun k => numB_lt S p hB k)
  have HT := Lib.hid (turnTo_bytes hB p m m)
  obtain ⟨A, c, rfl, hc, hrow⟩ := hr
  obtain ⟨b, o, rfl, hb, hcell⟩ := hrow (by omega)
  have HR := Lib.hid hcell
  have HB := Lib.hid hB
  clear hrow hcell hB
  have e0 : IntKind.i64.wrap ((p : Int) + (m : Int)) = ((p + m : Nat) : Int) := by rw [IntWalk.i64_in _ (by omega)]; omega
  have b1 : p ≤ p + m := by omega
  have b2 : p + m ≤ c := by omega
  have b3 : ¬ c = p := by omega
  have b4 : p + m - p = m := by omega
  go_enter Tryz.func55, Tryz.ntmps55
  go_upto_region 1 with fail
  obtain ⟨W, hW, g0, T0⟩ := three_new w (.int .i64 (p : Nat)) (.int .i64 (m : Nat)) (.bool neg) 107
  rw [hW]
  clear hW
  have T1 := Lib.hid T0
  obtain ⟨tl, t0, t1, t2, f0, f1, f2⟩ := T0
  go_wp2_with fail
  rw [b4]
  go_loopg [5, 19] m (fun kx s t wr => ∃ i : Nat, i + kx = m ∧ s = .int .i64 (numB S p i : Nat) ∧ t = .int .i64 i ∧ Hid (Grew W wr))
  case atStart => exact ⟨0, by omega, rfl, rfl, Lib.hid (Grew.refl _)⟩
  case round =>
    obtain ⟨i, hi, rfl, rfl, hg⟩ := hrel
    by_cases hlt : i < m
    · have hx := ((g0.trans hg.out).cell (p := ⟨b, o + (p + i), none⟩) hb).trans (HR.out (p + i) (by omega))
      rw [← Nat.add_assoc] at hx
      have hs := Lib.hid (shl_byte (numB S p i) (wd S (p + i)) i (by omega) (HN.out i) (HB.out (p + i)))
      have n2 := HB.out (p + i)
      have hs1 : Hid (numB S p (i + 1) = numB S p i * 256 + wd S (p + i)) := Lib.hid rfl
      generalize wd S (p + i) = x at *
      generalize numB S p i = N at *
      go_wp2_with fail
      rw [hs.out]
      go_roundg (m - (i + 1))
      case measure => omega
      case rel => exact ⟨i + 1, by omega, by rw [hs1.out], by go_num, hg⟩
    · obtain rfl : i = m := by omega
      obtain ⟨_, u0, u1, u2, _, _, _⟩ := T1.out.grew hg.out
      have hnl := Lib.hid (numB_is S p i)
      cases neg
      · go_wp2_with fail
        go_ret
        exact ⟨by simp [getB, getZ_pos, hnl.out], g0.trans hg.out⟩
      · have hs := Lib.hid (sign_byte (numB S p i) i hm (HN.out i))
        have hz := Lib.hid (getZ_neg (turnTo S p i i) 0 i hm.1)
        rw [hnl.out] at hz
        have hgb : Hid (getB S p (-(i : Int)) = getZ (turnTo S p i i) 0 (-(i : Int))) := Lib.hid (by unfold getB; rw [show (-(i : Int)).natAbs = i by omega])
        go_wp2_with fail
        rw [hs.out, ← hz.out, ← hgb.out]
        go_ret
        exact ⟨by simp, g0.trans hg.out⟩
-- READ]
-- [WRITE
theorem shr_step (v : Int) (k : Nat) : v / ((256 ^ k : Nat) : Int) / 256 = v / ((256 ^ (k + 1) : Nat) : Int) := by
  rw [Int.ediv_ediv_of_nonneg (Int.natCast_nonneg _), Nat.pow_succ, Int.natCast_mul]
  rfl
theorem shr_in (v : Int) (k : Nat) (hv : -9223372036854775808 ≤ v ∧ v ≤ 9223372036854775807) : -9223372036854775808 ≤ v / ((256 ^ k : Nat) : Int) ∧ v / ((256 ^ k : Nat) : Int) ≤ 9223372036854775807 := by
  have hp : 0 < 256 ^ k := Nat.pow_pos (by decide)
  generalize 256 ^ k = q at *
  constructor
  · by_cases h : 0 ≤ v
    · have := Int.ediv_nonneg h (show (0 : Int) ≤ q by omega); omega
    · have := Int.le_ediv_of_mul_le (show (0 : Int) < q by omega) (a := -9223372036854775808) (b := v) (by
        have : (9223372036854775808 : Int) * 1 ≤ 9223372036854775808 * q := Int.mul_le_mul_of_nonneg_left (by omega) (by omega)
        omega)
      exact this
  · by_cases h : 0 ≤ v
    · exact Int.le_trans (Int.ediv_le_self _ h) hv.2
    · have := Int.ediv_neg_of_neg_of_pos (show v < 0 by omega) (show (0 : Int) < q by omega); omega
end Go.Proofs.YtnhigfkhdmkoeaaGreatDoor

namespace Go.Proofs.YtnhigfkhdmkoeaaGreatDoor
open Go.RowKit
set_option linter.unusedVariables false

theorem wpList_makeS {P : Program} (w : World) {ops : Array Oper} {rest : List Oper} {o : Oper} {a : Act} {Q : Exit → Act → World → Prop} (hgd : o.guard = none) (l c : Operand) (t : TypeId) (hop : o.op = .makeSlice t l c)
    (base : Nat) (E : TypeId) (k : IntKind) (bytes : Nat) (ht : P.underlying t = some (.slice E)) (hi : (P.info? E).map (fun i => (i.zero, i.size, i.bytes)) = some (some (.int k 0), 1, bytes))
    (n : Nat) (hl : a.eval l = .int .i64 (n : Nat)) (hc : a.eval c = .int .i64 (n : Nat)) (hb : bytes * n ≤ 281474976710656) (hm : n ≤ maxLen) (hbase : base ≤ w.heap.size)
    (h : ∀ w', Own base E k w' (.slice (some ⟨w.heap.size, 0, none⟩) n n) (List.replicate n 0) → Grew w w' → wpList P ops Q rest (a.put o.dst (.slice (some ⟨w.heap.size, 0, none⟩) n n)) w') : wpList P ops Q (o :: rest) a w := by
  obtain ⟨i, hi0, hz0, hz1, hz2⟩ := info_parts hi
  refine wpList_make_full w hgd l c t hop base E i (.int k 0) 1 ht hi0 hz0 hz1 .i64 .i64 _ _ n hl hc rfl rfl (by rw [hz2]; exact hb) hm hbase fun w' h1 h2 => h w' ?_ ?_
  · have e : (madeCells (Value.int k 0).cells (n * 1)).toList = List.replicate n (.int k 0) := by
      rw [show (Value.int k 0).cells = #[.int k 0] from rfl, Nat.mul_one]
      unfold madeCells
      refine List.ext_getElem (by simp) fun i h1 h2 => ?_
      simp [Nat.mod_one]
    rw [e] at h1
    unfold Own
    rw [List.length_replicate, show cellsOf k (List.replicate n 0) = List.replicate n (.int k 0) by simp [cellsOf]]
    exact h1
  · exact Below.grown (Grew.refl w) h2 (Nat.le_refl _) (fun b hb => by cases hb)
theorem Own.cellS {w : World} {B : Nat} {E : TypeId} {k : IntKind} {g c n : Nat} {ns : List Nat} (h : Own B E k w (.slice (some ⟨g, 0, none⟩) n c) ns) (hn : n = ns.length) (j : Nat) (hj : j < ns.length) : w.cell? ⟨g, j, none⟩ = some (.int k (wd ns j : Nat)) ∧ w.frozen? ⟨g, j, none⟩ = false := by
  subst hn
  unfold Own at h
  refine ⟨?_, World.ownsRow.frozenAt h j⟩
  rw [World.ownsRow.cellAt h j (by omega)]
  simp [cellsOf, wd, hj]
theorem fits_noS {l zs : List Int} {k K : Nat} (h : fitsTo l zs (k + 1) = false) (hk : k < K) : fitsTo l zs K = false := by
  cases q : fitsTo l zs K with
  | false => rfl
  | true => rw [fitsTo_all q (k + 1) (by omega)] at h; cases h
theorem tmod_is (Y : Int) : (0 ≤ Y.tmod 256 ∧ Y.tmod 256 = Y % 256) ∨ (Y.tmod 256 < 0 ∧ Y.tmod 256 + 256 = Y % 256) := by
  rw [Int.tmod_eq_emod]
  split <;> simp <;> omega
theorem tdiv_is (Y : Int) : (Y - Y % 256).tdiv 256 = Y / 256 := by
  have : Y - Y % 256 = 256 * (Y / 256) := by omega
  rw [this, Int.mul_tdiv_cancel_left _ (by decide)]
theorem ediv_step (z : Int) (j : Nat) : z / ((256 ^ j : Nat) : Int) / 256 = z / ((256 ^ (j + 1) : Nat) : Int) := by
  rw [Int.ediv_ediv_of_nonneg (Int.natCast_nonneg _), Nat.pow_succ, Int.natCast_mul]
  rfl
theorem ediv_in (z : Int) (j : Nat) (h : -4294967296 ≤ z ∧ z ≤ 4294967296) : -4294967296 ≤ z / ((256 ^ j : Nat) : Int) ∧ z / ((256 ^ j : Nat) : Int) ≤ 4294967296 := by
  have hp : 0 < 256 ^ j := Nat.pow_pos (by decide)
  generalize 256 ^ j = q at *
  have h1 := Int.mul_ediv_add_emod z (q : Int)
  have h2 := Int.emod_nonneg z (show (q : Int) ≠ 0 by omega)
  have h3 := Int.emod_lt_of_pos z (show (0 : Int) < (q : Int) by omega)
  constructor
  · refine Int.not_lt.1 fun hlt => ?_
    have : (q : Int) * (z / (q : Int)) ≤ (q : Int) * (-4294967297) := Int.mul_le_mul_of_nonneg_left (by omega) (by omega)
    have h5 : (q : Int) * (-4294967297) ≤ -4294967296 - q := by
      have : (q : Int) * 4294967297 ≥ 4294967296 + q := by omega
      omega
    omega
  · refine Int.not_lt.1 fun hlt => ?_
    have : (q : Int) * 4294967297 ≤ (q : Int) * (z / (q : Int)) := Int.mul_le_mul_of_nonneg_left (by omega) (by omega)
    omega
theorem fits_in {z : Int} {m : Nat} {Z : Int} (hZ : Z = (m : Int) ∨ Z = -(m : Int)) (hm : 0 < m ∧ m ≤ 4) (h : fitsZ z Z = true) : -4294967296 ≤ z ∧ z ≤ 4294967296 := by
  have hp := pow_le4 m hm.2
  have e : Z.natAbs = m := by omega
  unfold fitsZ at h
  rw [e] at h
  generalize 256 ^ m = q at *
  split at h <;> simp only [decide_eq_true_eq] at h <;> omega
-- [PAY
end Go.Proofs.YtnhigfkhdmkoeaaGreatDoor

namespace Go.Proofs.YtnhigfkhdmkoeaaGreatDoor
open Go.RowKit
set_option linter.unusedVariables false

/- The program's SiRF messages: a kind looked up, whatever comes up first. -/
/-- What an operation of the look-up leaves: a value (inl); the table (0), the tuple (1), the layout (2), the variable (3). -/
def SLookS (c : Nat) (W : World) (lk st : Nat) (s : Value ⊕ Nat) (L : Nat → Bool) (w : World) (v : Value) : Prop :=
  match s with
  | .inl x => v = x
  | .inr 0 => L lk = false → SKindsAt w v
  | .inr 1 => ∃ lv, v = .tuple #[lv, .bool (decide ((srfLay c).1 ≠ 0))] ∧ SLayH w lv c
  | .inr 2 => SLayH w v c
  | .inr 3 => ∃ p, v = .pointer (some ⟨p, 0, none⟩) ∧ W.heap.size ≤ p ∧ p < w.heap.size ∧ (if L st = true then ∃ x y, SLayH w (.agg #[x, y]) c ∧ TwoC w p x y else ∃ x y, w.heap[p]? = some (.cells #[x, y] 102))
  | .inr _ => True
theorem slayH_grew {w w' : World} {v : Value} {c : Nat} (h : SLayH w v c) (g : Grew w w') : SLayH w' v c := h.kept fun b cs hb => (Below.block g b (Array.getElem?_eq_some_iff.1 hb).1).trans hb
theorem SLookS.also {c : Nat} {W : World} {lk st : Nat} {s : Value ⊕ Nat} {L : Nat → Bool} {j : Nat} {w w' : World} {v : Value} (h : SLookS c W lk st s L w v) (g : Grew w w') (hj : j ≠ st) : SLookS c W lk st s (also L j) w' v := by
  unfold SLookS at h ⊢
  split at h
  · exact h
  · intro hf
    have : L lk = false := by unfold Proofs.YtnhigfkhdmkoeaaGreatDoor.also at hf; cases q : L lk with | false => rfl | true => rw [q, Bool.or_true] at hf; cases hf
    exact (h this).grew g
  · obtain ⟨lv, e, hl⟩ := h; exact ⟨lv, e, slayH_grew hl g⟩
  · exact slayH_grew h g
  · obtain ⟨p, e, h1, h2, h3⟩ := h
    refine ⟨p, e, h1, Nat.lt_of_lt_of_le h2 g.size, ?_⟩
    rw [also_ne (by omega)]
    split at h3
    · rename_i q
      rw [if_pos q]
      obtain ⟨x, y, k1, k2⟩ := h3
      exact ⟨x, y, slayH_grew k1 g, k2.grew g⟩
    · rename_i q
      rw [if_neg q]
      obtain ⟨x, y, k1⟩ := h3
      exact ⟨x, y, (Below.block g p h2).trans k1⟩
  · trivial
section
variable {P : Program} {Q : Exit → Act → World → Prop} {o : Oper} {a : Act} {w W : World} {L : Nat → Bool} {ops : Array Oper} {i c lk st : Nat} {sh : List (Value ⊕ Nat)}
theorem sls_of (hd : ∀ j d, L j = true → writes ops j d = true → SLookS c W lk st (sh.getD j (.inr 4)) L w (a.tmps[d]?.getD undef)) (g : Grew W w) (hi : i ≠ st)
    (h : o.wp P a w (fun a' w'' => ∃ v, a' = a.put o.dst v ∧ SLookS c W lk st (sh.getD i (.inr 4)) (also L i) w'' v ∧ Grew w w'') Q) :
    o.wp P a w (fun a' w' => ∃ v, a' = a.put o.dst v ∧ (∀ d, o.dst = some d → SLookS c W lk st (sh.getD i (.inr 4)) (also L i) w' v) ∧ (∀ j d, L j = true → writes ops j d = true → SLookS c W lk st (sh.getD j (.inr 4)) (also L i) w' (a.tmps[d]?.getD undef)) ∧ Grew W w') Q :=
  Oper.wp_mono (fun a' w' ⟨v, h1, h2, h3⟩ => ⟨v, h1, fun _ _ => h2, fun j d hl hw => (hd j d hl hw).also h3 hi, g.trans h3⟩) h
end
theorem sls_store {Q : Exit → Act → World → Prop} {o : Oper} {a : Act} {w W : World} {L : Nat → Bool} {ops : Array Oper} {c lk i t : Nat} {sh : List (Value ⊕ Nat)}
    (hop : o.op = .store 102 (.tmp 4) (.tmp t)) (hdst : o.dst = none)
    (hd : ∀ j d, L j = true → writes ops j d = true → SLookS c W lk i (sh.getD j (.inr 4)) L w (a.tmps[d]?.getD undef)) (g : Grew W w)
    (h4 : SLookS c W lk i (.inr 3) L w (a.tmps[4]?.getD undef)) (ht : SLookS c W lk i (.inr 2) L w (a.tmps[t]?.getD undef)) (hL : L i = false) (hlk : L lk = true)
    (hone : ((List.range ops.size).all fun j => match sh.getD j (.inr 4) with | .inr 3 => writes ops j 4 | _ => true) = true) (h5 : sh.length = ops.size) (h6 : writes ops i 4 = false) :
    o.wp Tryz.prog a w (fun a' w' => ∃ v, a' = a.put o.dst v ∧ (∀ d, o.dst = some d → SLookS c W lk i (sh.getD i (.inr 4)) (also L i) w' v) ∧ (∀ j d, L j = true → writes ops j d = true → SLookS c W lk i (sh.getD j (.inr 4)) (also L i) w' (a.tmps[d]?.getD undef)) ∧ Grew W w') Q := by
  obtain ⟨p, e4, hWp, hpl, h4⟩ := h4
  rw [hL, if_neg (by decide)] at h4
  obtain ⟨x0, y0, hblk⟩ := h4
  have h17 : SLayH w (a.tmps[t]?.getD undef) c := ht
  have h17' := h17
  obtain ⟨A, cap, e17, hfb⟩ := h17
  have c0 : w.cell? ⟨p, 0, none⟩ = some x0 := by rw [cell_of_row w p 0 _ _ _ hblk]; rfl
  have c1 : w.cell? ⟨p, 1, none⟩ = some y0 := by rw [cell_of_row w p 1 _ _ _ hblk]; rfl
  have f0 : w.frozen? ⟨p, 0, none⟩ = false := by simp [World.frozen?, hblk]
  have f1 : w.frozen? ⟨p, 1, none⟩ = false := by simp [World.frozen?, hblk]
  obtain ⟨N, hN⟩ : ∃ N, (srfLay c).1 = N := ⟨_, rfl⟩
  obtain ⟨K, hK⟩ : ∃ K, (srfLay c).2.length / 2 = K := ⟨_, rfl⟩
  have e17' := e17
  rw [hN, hK] at e17
  have hF := ((Far.refl (fun x => x = p) w).setCell (p := ⟨p, 0, none⟩) rfl (.int .i64 (N : Nat))).setCell (p := ⟨p, 1, none⟩) rfl (.slice A K cap)
  have hvar : TwoC ((w.setCell ⟨p, 0, none⟩ (.int .i64 (N : Nat))).setCell ⟨p, 1, none⟩ (.slice A K cap)) p (.int .i64 (N : Nat)) (.slice A K cap) := ⟨by simpa using hpl, by simp [go_sem, c0], by simp [go_sem, c1], by simp [go_sem, f0], by simp [go_sem, f1]⟩
  have hg1 : Grew W ((w.setCell ⟨p, 0, none⟩ (.int .i64 (N : Nat))).setCell ⟨p, 1, none⟩ (.slice A K cap)) := (g.setCell hWp _).setCell hWp _
  have hex : (execOp a.eval o).run Tryz.prog w = .ok .skip ((w.setCell ⟨p, 0, none⟩ (.int .i64 (N : Nat))).setCell ⟨p, 1, none⟩ (.slice A K cap)) := by
    simp [execOp, hop, go_sem, e4, e17, c0, c1, f0, f1]
  generalize (w.setCell ⟨p, 0, none⟩ (.int .i64 (N : Nat))).setCell ⟨p, 1, none⟩ (.slice A K cap) = w1 at *
  have hkept : ∀ (q : Nat) (cs : Array Value), w.heap[q]? = some (.cells cs 107) → w1.heap[q]? = some (.cells cs 107) := fun q cs hq => by
    have hne : ¬ q = p := fun e => by subst e; rw [hblk] at hq; simp at hq
    exact (hF.block q (Array.getElem?_eq_some_iff.1 hq).1 hne).trans hq
  have hlay1 := h17'.kept hkept
  rw [e17', hN, hK] at hlay1
  unfold Oper.wp
  rw [hex]
  refine ⟨undef, by rw [hdst], fun d hd' => (by rw [hdst] at hd'; cases hd'), fun j d hl hwr => ?_, hg1⟩
  have h := hd j d hl hwr
  have h1 := fun q => List.all_eq_true.1 hone j (List.mem_range.2 q)
  have hjs : j < ops.size := by
    unfold writes at hwr
    split at hwr
    · cases hwr
    · exact (Array.getElem?_eq_some_iff.1 ‹_›).1
  replace h1 := h1 hjs
  cases hs : sh.getD j (.inr 4) with
  | inl x => rw [hs] at h; exact h
  | inr n =>
    rw [hs] at h h1
    unfold SLookS at h ⊢
    match n, h, h1 with
    | 0, h, _ =>
      intro hf
      unfold Proofs.YtnhigfkhdmkoeaaGreatDoor.also at hf
      rw [hlk, Bool.or_true] at hf
      cases hf
    | 1, h, _ => obtain ⟨lv, e, hl⟩ := h; exact ⟨lv, e, hl.kept hkept⟩
    | 2, h, _ => exact SLayH.kept h hkept
    | 3, h, h1 =>
      have : d = 4 := by
        unfold writes at hwr h1
        cases hq : ops[j]? with
        | none => rw [hq] at hwr; cases hwr
        | some o' =>
          rw [hq] at hwr h1
          simp only [beq_iff_eq] at hwr h1
          exact Option.some.inj (hwr.symm.trans h1)
      subst this
      refine ⟨p, e4, hWp, hvar.lt, ?_⟩
      rw [if_pos (by unfold Proofs.YtnhigfkhdmkoeaaGreatDoor.also; simp)]
      exact ⟨_, _, hlay1, hvar⟩
    | _ + 4, _, _ => trivial
noncomputable def sdecOps : Array Oper := (Tryz.f20.body.map (regOps 3)).getD #[]
noncomputable def sdecCode : Code := (Tryz.f20.body.bind (regCode 3)).getD .skip
def sdecSh (a : Nat) (b o n cap : Nat) : List (Value ⊕ Nat) := [.inr 0, .inl (.slice (some ⟨b, o, none⟩) n cap), .inl (.pointer (some ⟨b, o, none⟩)), .inl (.int .u8 (a : Nat)), .inr 1, .inr 1, .inr 2, .inl (.bool (decide ((srfLay a).1 ≠ 0))), .inr 3, .inr 4, .inl (.bool (decide ((srfLay a).1 ≠ 0)))]
set_option maxRecDepth 1000000 in
set_option maxHeartbeats 8000000 in
theorem sdec_look (a : Nat) (b o n cap : Nat) (W : World) (T : Hid (W.cell? ⟨b, o, none⟩ = some (.int .u8 (a : Nat)))) (hn : 0 < n) (ha : a < 256) (K0 : Act → World → Prop) (t1 t2 t3 t4 t5 t6 t7 t8 t9 t10 t11 t12 t13 t14 t15 t16 t17 t18 t19 t20 t21 t22 t23 t24 t25 t26 t27 t28 t29 t30 t31 t32 t33 t34 t35 t36 t37 t38 t39 t40 t41 t42 t43 t44 t45 t46 t47 t48 t49 t50 t51 t52 t53 : Value)
    (post : ∀ (p : Nat) (x y : Value) (w' : World) (s13 s14 s15 s16 s17 s18 s19 s20 : Value), W.heap.size ≤ p → SLayH w' (.agg #[x, y]) a → TwoC w' p x y → Grew W w' → K0 ⟨#[.slice (some ⟨b, o, none⟩) n cap, t1, t2, t3, .pointer (some ⟨p, 0, none⟩), .bool (decide ((srfLay a).1 ≠ 0)), t6, t7, t8, t9, t10, t11, t12, s13, s14, s15, s16, s17, s18, s19, s20, t21, t22, t23, t24, t25, t26, t27, t28, t29, t30, t31, t32, t33, t34, t35, t36, t37, t38, t39, t40, t41, t42, t43, t44, t45, t46, t47, t48, t49, t50, t51, t52, t53], []⟩ w') :
    Code.wp Tryz.prog sdecCode (Exit.then K0 fun _ _ _ => False) ⟨#[.slice (some ⟨b, o, none⟩) n cap, t1, t2, t3, t4, t5, t6, t7, t8, t9, t10, t11, t12, t13, t14, t15, t16, t17, t18, t19, t20, t21, t22, t23, t24, t25, t26, t27, t28, t29, t30, t31, t32, t33, t34, t35, t36, t37, t38, t39, t40, t41, t42, t43, t44, t45, t46, t47, t48, t49, t50, t51, t52, t53], []⟩ W := by
  conv => arg 2; whnf
  refine wp_region_fill (n := 54) (ops := sdecOps) (by kernel_rfl) (fun L i w' v => SLookS a W 4 9 ((sdecSh a b o n cap).getD i (.inr 4)) L w' v) ?_ ?_ ?_ ?_ ?_
  case refine_1 => kernel_rfl
  case refine_2 => kernel_rfl
  case refine_3 => rfl
  case refine_5 =>
    intro L c w' hL hdef hsz ho hd g
    obtain ⟨tm, df⟩ := c
    simp only at hdef hsz ho hd
    subst hdef
    obtain ⟨p, e4, hWp, _, h4⟩ := hd 8 4 (by kernel_rfl)
    rw [if_pos (hL 9 (of_decide_eq_true (by kernel_rfl)))] at h4
    obtain ⟨x, y, hlay, hvar⟩ := h4
    have e5 : tm[5]?.getD undef = .bool (decide ((srfLay a).1 ≠ 0)) := hd 10 5 (by kernel_rfl)
    have f0 : tm[0]?.getD undef = .slice (some ⟨b, o, none⟩) n cap := ho 0 (by kernel_rfl)
    have f1 : tm[1]?.getD undef = t1 := ho 1 (by kernel_rfl)
    have f2 : tm[2]?.getD undef = t2 := ho 2 (by kernel_rfl)
    have f3 : tm[3]?.getD undef = t3 := ho 3 (by kernel_rfl)
    have f6 : tm[6]?.getD undef = t6 := ho 6 (by kernel_rfl)
    have f7 : tm[7]?.getD undef = t7 := ho 7 (by kernel_rfl)
    have f8 : tm[8]?.getD undef = t8 := ho 8 (by kernel_rfl)
    have f9 : tm[9]?.getD undef = t9 := ho 9 (by kernel_rfl)
    have f10 : tm[10]?.getD undef = t10 := ho 10 (by kernel_rfl)
    have f11 : tm[11]?.getD undef = t11 := ho 11 (by kernel_rfl)
    have f12 : tm[12]?.getD undef = t12 := ho 12 (by kernel_rfl)
    have f21 : tm[21]?.getD undef = t21 := ho 21 (by kernel_rfl)
    have f22 : tm[22]?.getD undef = t22 := ho 22 (by kernel_rfl)
    have f23 : tm[23]?.getD undef = t23 := ho 23 (by kernel_rfl)
    have f24 : tm[24]?.getD undef = t24 := ho 24 (by kernel_rfl)
    have f25 : tm[25]?.getD undef = t25 := ho 25 (by kernel_rfl)
    have f26 : tm[26]?.getD undef = t26 := ho 26 (by kernel_rfl)
    have f27 : tm[27]?.getD undef = t27 := ho 27 (by kernel_rfl)
    have f28 : tm[28]?.getD undef = t28 := ho 28 (by kernel_rfl)
    have f29 : tm[29]?.getD undef = t29 := ho 29 (by kernel_rfl)
    have f30 : tm[30]?.getD undef = t30 := ho 30 (by kernel_rfl)
    have f31 : tm[31]?.getD undef = t31 := ho 31 (by kernel_rfl)
    have f32 : tm[32]?.getD undef = t32 := ho 32 (by kernel_rfl)
    have f33 : tm[33]?.getD undef = t33 := ho 33 (by kernel_rfl)
    have f34 : tm[34]?.getD undef = t34 := ho 34 (by kernel_rfl)
    have f35 : tm[35]?.getD undef = t35 := ho 35 (by kernel_rfl)
    have f36 : tm[36]?.getD undef = t36 := ho 36 (by kernel_rfl)
    have f37 : tm[37]?.getD undef = t37 := ho 37 (by kernel_rfl)
    have f38 : tm[38]?.getD undef = t38 := ho 38 (by kernel_rfl)
    have f39 : tm[39]?.getD undef = t39 := ho 39 (by kernel_rfl)
    have f40 : tm[40]?.getD undef = t40 := ho 40 (by kernel_rfl)
    have f41 : tm[41]?.getD undef = t41 := ho 41 (by kernel_rfl)
    have f42 : tm[42]?.getD undef = t42 := ho 42 (by kernel_rfl)
    have f43 : tm[43]?.getD undef = t43 := ho 43 (by kernel_rfl)
    have f44 : tm[44]?.getD undef = t44 := ho 44 (by kernel_rfl)
    have f45 : tm[45]?.getD undef = t45 := ho 45 (by kernel_rfl)
    have f46 : tm[46]?.getD undef = t46 := ho 46 (by kernel_rfl)
    have f47 : tm[47]?.getD undef = t47 := ho 47 (by kernel_rfl)
    have f48 : tm[48]?.getD undef = t48 := ho 48 (by kernel_rfl)
    have f49 : tm[49]?.getD undef = t49 := ho 49 (by kernel_rfl)
    have f50 : tm[50]?.getD undef = t50 := ho 50 (by kernel_rfl)
    have f51 : tm[51]?.getD undef = t51 := ho 51 (by kernel_rfl)
    have f52 : tm[52]?.getD undef = t52 := ho 52 (by kernel_rfl)
    have f53 : tm[53]?.getD undef = t53 := ho 53 (by kernel_rfl)
    have e : tm = #[tm[0]?.getD undef, tm[1]?.getD undef, tm[2]?.getD undef, tm[3]?.getD undef, tm[4]?.getD undef, tm[5]?.getD undef, tm[6]?.getD undef, tm[7]?.getD undef, tm[8]?.getD undef, tm[9]?.getD undef, tm[10]?.getD undef, tm[11]?.getD undef, tm[12]?.getD undef, tm[13]?.getD undef, tm[14]?.getD undef, tm[15]?.getD undef, tm[16]?.getD undef, tm[17]?.getD undef, tm[18]?.getD undef, tm[19]?.getD undef, tm[20]?.getD undef, tm[21]?.getD undef, tm[22]?.getD undef, tm[23]?.getD undef, tm[24]?.getD undef, tm[25]?.getD undef, tm[26]?.getD undef, tm[27]?.getD undef, tm[28]?.getD undef, tm[29]?.getD undef, tm[30]?.getD undef, tm[31]?.getD undef, tm[32]?.getD undef, tm[33]?.getD undef, tm[34]?.getD undef, tm[35]?.getD undef, tm[36]?.getD undef, tm[37]?.getD undef, tm[38]?.getD undef, tm[39]?.getD undef, tm[40]?.getD undef, tm[41]?.getD undef, tm[42]?.getD undef, tm[43]?.getD undef, tm[44]?.getD undef, tm[45]?.getD undef, tm[46]?.getD undef, tm[47]?.getD undef, tm[48]?.getD undef, tm[49]?.getD undef, tm[50]?.getD undef, tm[51]?.getD undef, tm[52]?.getD undef, tm[53]?.getD undef] := (arr_getS tm undef hsz).trans (by kernel_rfl)
    rw [e4, e5, f0, f1, f2, f3, f6, f7, f8, f9, f10, f11, f12, f21, f22, f23, f24, f25, f26, f27, f28, f29, f30, f31, f32, f33, f34, f35, f36, f37, f38, f39, f40, f41, f42, f43, f44, f45, f46, f47, f48, f49, f50, f51, f52, f53] at e
    rw [e]
    exact post p x y w' (tm[13]?.getD undef) (tm[14]?.getD undef) (tm[15]?.getD undef) (tm[16]?.getD undef) (tm[17]?.getD undef) (tm[18]?.getD undef) (tm[19]?.getD undef) (tm[20]?.getD undef) hWp hlay hvar g
  simp only [AllFrom]
  refine ⟨?_, ?_, ?_, ?_, ?_, ?_, ?_, ?_, ?_, ?_, ?_, trivial⟩
  · intro L c w' hL ho hw hc hd g
    exact sls_of hd g (by decide) (each_call (f := 54) (args := #[]) (by simp [go_sem]) ((srp_kinds w').mono (by rintro e w'' ⟨v, rfl, hk, g'⟩; exact ⟨_, rfl, fun _ => hk, g'⟩)))
  · intro L c w' hL ho hw hc hd g
    have e0 : c.tmps[0]?.getD undef = .slice (some ⟨b, o, none⟩) n cap := ho 0 (by kernel_rfl)
    refine sls_of hd g (by decide) (each_value (v := .slice (some ⟨b, o, none⟩) n cap) ?_ rfl)
    simp [execOp, go_sem, e0]
  · intro L c w' hL ho hw hc hd g
    have e0 : c.tmps[15]?.getD undef = .slice (some ⟨b, o, none⟩) n cap := hd 1 15 (hw 1 (by kernel_rfl)) (by kernel_rfl)
    refine sls_of hd g (by decide) (each_value (v := .pointer (some ⟨b, o, none⟩)) ?_ rfl)
    simp [execOp, go_sem, e0, hn]
  · intro L c w' hL ho hw hc hd g
    have e0 : c.tmps[16]?.getD undef = .pointer (some ⟨b, o, none⟩) := hd 2 16 (hw 2 (by kernel_rfl)) (by kernel_rfl)
    have hx := (g.cell (p := ⟨b, o, none⟩) (World.block_lt_of_cell? W ⟨b, o, none⟩ T.out)).trans T.out
    refine sls_of hd g (by decide) (each_value (v := .int .u8 (a : Nat)) ?_ rfl)
    simp [execOp, go_sem, e0, hx]
  · intro L c w' hL ho hw hc hd g
    have hk : SKindsAt w' (c.tmps[14]?.getD undef) := hd 0 14 (hw 0 (by kernel_rfl)) (by kernel_rfl) hL
    have e2 : c.eval (.tmp 17) = .int .u8 (a : Nat) := by
      have : c.tmps[17]?.getD undef = .int .u8 (a : Nat) := hd 3 17 (hw 3 (by kernel_rfl)) (by kernel_rfl)
      simpa [go_sem] using this
    have e1 : c.eval (.tmp 14) = c.tmps[14]?.getD undef := by simp [go_sem]
    obtain ⟨lv, hrun, hl⟩ := skinds_look w' _ hk a ha
    refine sls_of hd g (by decide) (each_value (v := .tuple #[lv, .bool (decide ((srfLay a).1 ≠ 0))]) ?_ ⟨lv, rfl, hl⟩)
    simp only [execOp, e1, e2, Sem.run_bind, hrun, Result.andThen_ok, Sem.run_pure]
  · intro L c w' hL ho hw hc hd g
    obtain ⟨lv, e1, hl⟩ : ∃ lv, c.tmps[18]?.getD undef = .tuple #[lv, .bool (decide ((srfLay a).1 ≠ 0))] ∧ SLayH w' lv a := hd 4 18 (hw 4 (by kernel_rfl)) (by kernel_rfl)
    refine sls_of hd g (by decide) (each_value (v := .tuple #[lv, .bool (decide ((srfLay a).1 ≠ 0))]) ?_ ⟨lv, rfl, hl⟩)
    simp [execOp, go_sem, e1]
  · intro L c w' hL ho hw hc hd g
    obtain ⟨lv, e1, hl⟩ : ∃ lv, c.tmps[13]?.getD undef = .tuple #[lv, .bool (decide ((srfLay a).1 ≠ 0))] ∧ SLayH w' lv a := hd 5 13 (hw 5 (by kernel_rfl)) (by kernel_rfl)
    refine sls_of hd g (by decide) (each_value (v := lv) ?_ hl)
    simp [execOp, go_sem, e1]
  · intro L c w' hL ho hw hc hd g
    obtain ⟨lv, e1, hl⟩ : ∃ lv, c.tmps[13]?.getD undef = .tuple #[lv, .bool (decide ((srfLay a).1 ≠ 0))] ∧ SLayH w' lv a := hd 5 13 (hw 5 (by kernel_rfl)) (by kernel_rfl)
    refine sls_of hd g (by decide) (each_value (v := .bool (decide ((srfLay a).1 ≠ 0))) ?_ rfl)
    simp [execOp, go_sem, e1]
  · intro L c w' hL ho hw hc hd g
    have hn : L 9 = false := by
      cases q : L 9 with
      | false => rfl
      | true => have := hc 9 8 q (by kernel_rfl); rw [hL] at this; cases this
    refine sls_of hd g (by decide) (each_made (v := .pointer (some ⟨w'.heap.size, 0, none⟩)) (w1 := w'.alloc (.cells #[.int .i64 0, .slice none 0 0] 102)) ?_ ((Grew.refl _).alloc _) ⟨_, rfl, g.size, by simp, ?_⟩)
    · simp [execOp, go_sem]
    · rw [also_ne (by decide), hn, if_neg (by decide)]
      exact ⟨_, _, heap_alloc_new _ _⟩
  · intro L c w' hL ho hw hc hd g
    exact sls_store (ops := sdecOps) (sh := sdecSh a b o n cap) (t := 19) rfl rfl hd g (hd 8 4 (hw 8 (by kernel_rfl)) (by kernel_rfl)) (hd 6 19 (hw 6 (by kernel_rfl)) (by kernel_rfl)) hL (hw 4 (by kernel_rfl)) (by kernel_rfl) (by kernel_rfl) (by kernel_rfl)
  · intro L c w' hL ho hw hc hd g
    have e1 : c.tmps[20]?.getD undef = .bool (decide ((srfLay a).1 ≠ 0)) := hd 7 20 (hw 7 (by kernel_rfl)) (by kernel_rfl)
    refine sls_of hd g (by decide) (each_value (v := .bool (decide ((srfLay a).1 ≠ 0))) ?_ rfl)
    simp [execOp, go_sem, e1]
/- The program's SiRF messages: a payload read. -/
theorem smade_one (x : Value) (n : Nat) (h : x.cells = #[x]) : (madeCells x.cells (n * 1)).toList = List.replicate n x := by
  rw [h, Nat.mul_one]
  unfold madeCells
  refine List.ext_getElem (by simp) fun i h1 h2 => ?_
  simp [Nat.mod_one]
section
variable {P : Program} (w : World)
/-- 'make([]T, n)' of integers, n a variable. -/
theorem wpList_makeI {ops : Array Oper} {rest : List Oper} {o : Oper} {a : Act} {Q : Exit → Act → World → Prop} (hgd : o.guard = none) (l c : Operand) (t : TypeId) (hop : o.op = .makeSlice t l c)
    (base : Nat) (E : TypeId) (k : IntKind) (bytes : Nat) (ht : P.underlying t = some (.slice E)) (hi : (P.info? E).map (fun i => (i.zero, i.size, i.bytes)) = some (some (.int k 0), 1, bytes))
    (n : Nat) (hl : a.eval l = .int .i64 (n : Nat)) (hc : a.eval c = .int .i64 (n : Nat)) (hb : bytes * n ≤ 281474976710656) (hm : n ≤ maxLen) (hbase : base ≤ w.heap.size)
    (h : ∀ w', OwnZ base E k w' (.slice (some ⟨w.heap.size, 0, none⟩) n n) (List.replicate n 0) → Grew w w' → wpList P ops Q rest (a.put o.dst (.slice (some ⟨w.heap.size, 0, none⟩) n n)) w') : wpList P ops Q (o :: rest) a w := by
  obtain ⟨i, hi0, hz0, hz1, hz2⟩ := info_parts hi
  refine wpList_make_full w hgd l c t hop base E i (.int k 0) 1 ht hi0 hz0 hz1 .i64 .i64 _ _ n hl hc rfl rfl (by rw [hz2]; exact hb) hm hbase fun w' h1 h2 => h w' ?_ ?_
  · rw [smade_one _ _ rfl] at h1
    unfold OwnZ
    rw [List.length_replicate, show cellsZ k (List.replicate n 0) = List.replicate n (.int k 0) by simp [cellsZ]]
    exact h1
  · exact Below.grown (Grew.refl w) h2 (Nat.le_refl _) (fun b hb => by cases hb)
end
/-- A number of the row is written over. -/
theorem OwnZ.setI {w : World} {B : Nat} {E : TypeId} {k : IntKind} {g c n : Nat} {zs : List Int} (h : OwnZ B E k w (.slice (some ⟨g, 0, none⟩) n c) zs) (j : Nat) (x : Int) (hj : j < zs.length) :
    OwnZ B E k (w.setCell ⟨g, j, none⟩ (.int k x)) (.slice (some ⟨g, 0, none⟩) n c) (zs.set j x) := by
  unfold OwnZ at h ⊢
  rw [List.length_set]
  have hn : n = zs.length := by
    rcases h.2 with ⟨h', _⟩ | ⟨g', cap', cur, h', _⟩
    · simp at h'
    · simp only [Value.slice.injEq] at h'; exact h'.2.1
  subst hn
  have := (World.ownsRow.stored h j (.int k x)).1
  rwa [show (cellsZ k zs).set j (.int k x) = cellsZ k (zs.set j x) by simp [cellsZ, List.map_set]] at this
theorem OwnZ.cellI {w : World} {B : Nat} {E : TypeId} {k : IntKind} {g c n : Nat} {zs : List Int} (h : OwnZ B E k w (.slice (some ⟨g, 0, none⟩) n c) zs) (hn : n = zs.length) (j : Nat) (hj : j < zs.length) : w.cell? ⟨g, j, none⟩ = some (.int k (zi zs j)) ∧ w.frozen? ⟨g, j, none⟩ = false := by
  subst hn
  unfold OwnZ at h
  refine ⟨?_, World.ownsRow.frozenAt h j⟩
  rw [World.ownsRow.cellAt h j (by omega)]
  simp [cellsZ, zi, hj]
/-- The values of the first so many fields, noughts behind. -/
def bvalsPad (S : List Nat) (l : List Int) (K k : Nat) : List Int := bvalsTo S l k ++ List.replicate (K - k) 0
theorem bvalsPad_length (S : List Nat) (l : List Int) (K k : Nat) (h : k ≤ K) : (bvalsPad S l K k).length = K := by
  unfold bvalsPad
  rw [List.length_append, bvalsTo_length, List.length_replicate]
  omega
theorem bvalsPad_set (S : List Nat) (l : List Int) (K k : Nat) (h : k < K) : (bvalsPad S l K k).set k (getB S (zi l (2 * k)).toNat (zi l (2 * k + 1))) = bvalsPad S l K (k + 1) := by
  unfold bvalsPad
  rw [List.set_append_right _ _ (by rw [bvalsTo_length]; exact Nat.le_refl _), bvalsTo_length, Nat.sub_self, show K - k = (K - (k + 1)) + 1 by omega, List.replicate_succ, List.set_cons_zero, bvalsTo, List.append_assoc]
  rfl
theorem bvalsPad_all (S : List Nat) (l : List Int) (K : Nat) : bvalsPad S l K K = bvalsTo S l K := by
  unfold bvalsPad
  rw [Nat.sub_self]
  simp
theorem sneg_abs (m : Nat) (neg : Bool) : (if neg then -(m : Int) else (m : Int)).natAbs = m := by cases neg <;> simp
theorem sneg_lt (m : Nat) (neg : Bool) (h : 0 < m) : decide ((if neg then -(m : Int) else (m : Int)) < 0) = neg := by cases neg <;> simp <;> omega
-- [DEC
set_option maxRecDepth 100000 in
set_option maxHeartbeats 4000000 in
theorem srp_Decode (v : Value) (S : List Nat) (w : World) (hr : Row .u8 w v S) (hB : Bytes S) (hl : S.length ≤ 100000) :
    Calls Tryz.prog 20 #[v] w (DecS (srfDec S) w) := by
  have hdec : srfDec S = if S.length = 0 then (0, [], 4) else if (srfLay (wd S 0)).1 = 0 then (0, [], 7) else if S.length ≠ (srfLay (wd S 0)).1 then (0, [], 5) else (wd S 0, bvalsTo S (srfLay (wd S 0)).2 ((srfLay (wd S 0)).2.length / 2), 0) := rfl
  have HR := Lib.hid hr
  obtain ⟨SA, sc, rfl, hsc, hrow⟩ := hr
  by_cases hs0 : S.length = 0
  · rw [hdec, if_pos hs0]
    clear hdec hrow HR
    rw [hs0] at hsc ⊢
    go_enter Tryz.func20, Tryz.ntmps20
    go_upto_region 1 with fail
    obtain ⟨W, hW, g0, T0⟩ := twoC_new w (.int .u8 0) (.slice none 0 0) 68
    rw [hW]
    clear hW
    obtain ⟨_, r0, r1, q0, q1⟩ := T0
    go_wp2_with fail
    refine bodyPost_ret (by simp [results, Tryz.results20, go_sem, r0, r1]; try rfl) rfl ?_
    exact decS_no (twoC_put g0 (Nat.le_refl _) _ _)
  · have hs1 : ¬ (S.length : Int) = 0 := by omega
    obtain ⟨sb, so, rfl, hsb, hcell⟩ := hrow (by omega)
    have h0 := hcell 0 (by omega)
    rw [Nat.add_zero] at h0
    have ha := hB 0
    obtain ⟨a, haa⟩ : ∃ a, wd S 0 = a := ⟨_, rfl⟩
    have HF := srf_field a
    have HNO := fun h => slay_no (c := a) h
    have HAT := fun w v (h : SLayH w v a) => h.at_
    have hev := (srf_layOk a).even
    unfold SLayAt at HAT
    rw [haa] at h0 ha hdec
    rw [if_neg hs0] at hdec
    have HLay : ∀ w v, SLayH w v a → _ := HAT
    generalize hn : (srfLay a).1 = n at *
    generalize hll : (srfLay a).2 = l at *
    have hA0 := Lib.hid haa
    clear haa
    generalize srfDec S = r at *
    have HP := Lib.hid hdec
    clear hdec hcell
    have HC0 := Lib.hid h0
    have hs2 : ¬ (S.length : Int) = 0 := hs1
    clear hs1 hrow
    go_enter Tryz.func20, Tryz.ntmps20
    go_upto_region 1 with fail
    obtain ⟨W, hW, g0, T0⟩ := twoC_new w (.int .u8 0) (.slice none 0 0) 68
    rw [hW]
    clear hW
    have T1 := Lib.hid T0
    have hw0 := T0.lt
    have hC1 := Lib.hid ((g0.cell (p := ⟨sb, so, none⟩) hsb).trans h0)
    clear T0 h0
    go_upto_region 3 with fail
    go_cut [4, 5] (fun s t wx => ∃ (p : Nat) (A : Option Addr) (cap : Nat), s = .pointer (some ⟨p, 0, none⟩) ∧ t = .bool (!decide (n = 0)) ∧ W.heap.size ≤ p ∧ Hid (SLayH wx (.agg #[.int .i64 (n : Nat), .slice A (l.length / 2) cap]) a) ∧ Hid (TwoC wx p (.int .i64 (n : Nat)) (.slice A (l.length / 2) cap)) ∧ Hid (Grew W wx))
    case first =>
      refine wp_thenS (sdec_look a sb so S.length sc W hC1 (by omega) ha _ _ _ _ _ _ _ _ _ _ _ _ _ _ _ _ _ _ _ _ _ _ _ _ _ _ _ _ _ _ _ _ _ _ _ _ _ _ _ _ _ _ _ _ _ _ _ _ _ _ _ _ _ _ (fun p x y wx s13 s14 s15 s16 s17 s18 s19 s20 hWp hlay hvar hg => ?_))
      obtain ⟨A, cap, e, _⟩ := HAT _ _ hlay
      simp only [Value.agg.injEq, Array.mk.injEq, List.cons.injEq, and_true] at e
      obtain ⟨rfl, rfl⟩ := e
      go_wp2_with fail
      go_meet
      case rel => exact ⟨p, A, cap, rfl, by simp, hWp, Lib.hid hlay, Lib.hid hvar, Lib.hid hg⟩
    case rest =>
      obtain ⟨wX, hwX⟩ : ∃ x, x = wc := ⟨_, rfl⟩
      subst hwX
      obtain ⟨p, A, cap, rfl, rfl, hWp, hlay, hvar, hg⟩ := hcut
      have G1 := Lib.hid (g0.trans hg.out)
      obtain ⟨_, v0, v1, _, _⟩ := hvar.out
      obtain ⟨_, r0, r1, q0, q1⟩ := T1.out.grew hg.out
      by_cases hn0 : n = 0
      · have HP0 : Hid (r = (0, [], 7)) := Lib.hid (by rw [HP.out, if_pos hn0])
        subst hn0
        go_wp2_with fail
        refine bodyPost_ret (by simp [results, Tryz.results20, go_sem, r0, r1]; try rfl) rfl ?_
        rw [HP0.out]
        exact decS_no (twoC_put G1.out (Nat.le_refl _) _ _)
      · by_cases hne : S.length ≠ n
        · have n1 : ¬ (S.length : Int) = n := by omega
          have HP0 : Hid (r = (0, [], 5)) := Lib.hid (by rw [HP.out, if_neg hn0, if_pos hne])
          go_wp2_with fail
          refine bodyPost_ret (by simp [results, Tryz.results20, go_sem, r0, r1]; try rfl) rfl ?_
          rw [HP0.out]
          exact decS_no (twoC_put G1.out (Nat.le_refl _) _ _)
        · have HP' : Hid (r = (a, bvalsTo S l (l.length / 2), 0)) := Lib.hid (by rw [HP.out, if_neg hn0, if_neg hne])
          obtain rfl : n = S.length := by omega
          go_upto_region 9 with (refine wpList_makeI _ rfl _ _ 34 rfl wX.heap.size 2 .i64 8 Tryz.underlying34 infoI64 (l.length / 2) rfl rfl (by omega) (by unfold maxLen; omega) (Nat.le_refl _) ?_; intro V2 hO0 gV2)
          have HLC := (HAT _ _ hlay.out)
          obtain ⟨A', cap', eA, HLC⟩ := HLC
          simp only [Value.agg.injEq, Array.mk.injEq, List.cons.injEq, and_true, Value.slice.injEq] at eA
          obtain ⟨-, rfl, -, rfl⟩ := eA
          have HLAY := Lib.hid HLC
          have hpos : 2 * (l.length / 2) = l.length := by omega
          generalize hKe : l.length / 2 = K at *
          clear hKe HLC
          obtain ⟨_, v0, v1, _, _⟩ := hvar.out.grew gV2
          have hvl : wX.heap.size < V2.heap.size := (hO0.lt _ rfl).2
          have hw1 : w.heap.size < wX.heap.size := Nat.lt_of_lt_of_le hw0 hg.out.size
          have hpw : p < wX.heap.size := hvar.out.lt
          have GA := Lib.hid (G1.out.trans gV2)
          have HFI := Lib.hid HF
          have HBy := Lib.hid hB
          have TA := Lib.hid (T1.out.grew (hg.out.trans gV2))
          clear HP HNO HAT HLay HF hB r0 r1 q0 q1 hC1
          go_wp2_with fail
          go_loopg [37] K (fun kx s wr => ∃ k : Nat, k + kx = K ∧ s = .int .i64 k ∧ Hid (OwnZ wX.heap.size 2 .i64 wr (.slice (some ⟨wX.heap.size, 0, none⟩) K K) (bvalsPad S l K k)) ∧ Hid (Far (fun x => x = wX.heap.size) V2 wr))
          case atStart => exact ⟨0, by omega, rfl, Lib.hid (by unfold bvalsPad bvalsTo; exact hO0), Lib.hid (Far.refl _ _)⟩
          case round =>
            obtain ⟨k, hk, rfl, hO, hFa⟩ := hrel
            by_cases hlt : k < K
            · obtain ⟨q, m, neg, e1, e2, hm, hq1, hpm⟩ := HFI.out k (by omega)
              obtain ⟨fb, rfl, hfb, c0, c1, c2⟩ := HLAY.out k (by omega)
              rw [e1] at c0
              rw [e2, sneg_abs] at c1
              rw [e2, sneg_lt m neg hm.1] at c2
              have hs := Lib.hid (bvalsPad_set S l K k hlt)
              rw [e1, e2, Int.toNat_natCast] at hs
              have HG := fun w' (g : Grew wr w') => Lib.hid (srp_read (.slice (some ⟨sb, so, none⟩) S.length sc) S q m neg w' (((HR.out.grew GA.out).far hFa.out (fun x hx h => by have := HR.out.lt (by omega) x hx; omega)).grew g) HBy.out hpm hm hl)
              have y0 := (hFa.out.cell (p := ⟨fb, k * 3, none⟩) (Nat.lt_trans hfb (by omega)) (by show ¬ fb = _; omega)).trans ((gV2.cell (p := ⟨fb, k * 3, none⟩) hfb).trans c0)
              have y1 := (hFa.out.cell (p := ⟨fb, k * 3 + 1, none⟩) (Nat.lt_trans hfb (by omega)) (by show ¬ fb = _; omega)).trans ((gV2.cell (p := ⟨fb, k * 3 + 1, none⟩) hfb).trans c1)
              have y2 := (hFa.out.cell (p := ⟨fb, k * 3 + 2, none⟩) (Nat.lt_trans hfb (by omega)) (by show ¬ fb = _; omega)).trans ((gV2.cell (p := ⟨fb, k * 3 + 2, none⟩) hfb).trans c2)
              clear c0 c1 c2
              generalize getB S q (if neg then -(m : Int) else (m : Int)) = y at *
              have hvp := Lib.hid (bvalsPad_length S l K k (by omega))
              generalize bvalsPad S l K k = zs at *
              go_upto_region 12 with fail
              obtain ⟨W3, hW3, g3, T3⟩ := three_new wr (.int .i64 (q : Nat)) (.int .i64 (m : Nat)) (.bool neg) 107
              rw [hW3]
              clear hW3 y0 y1 y2
              obtain ⟨_, x0, x1, x2, _, _, _⟩ := T3
              go_upto_region 13 with (go_at_call 55; refine (HG _ g3).out.mono ?_; rintro e w5 ⟨rfl, g5⟩; have O5 := hO.out.grew (g3.trans g5); obtain ⟨hx, hfr⟩ := O5.cellI hvp.out.symm k (by rw [hvp.out]; exact hlt))
              have O6 := O5.setI k y (by rw [hvp.out]; exact hlt)
              have F6 := ((hFa.out.trans (Far.of_grew (F := fun x => x = wX.heap.size) (g3.trans g5)))).setCell (p := ⟨wX.heap.size, k, none⟩) rfl (.int .i64 y)
              rw [hs.out] at O6
              generalize w5.setCell ⟨wX.heap.size, k, none⟩ (.int .i64 y) = V6 at *
              clear O5 hx hfr x0 x1 x2 HG
              go_wp2_with fail
              go_roundg (K - (k + 1))
              case measure => omega
              case rel => exact ⟨k + 1, by omega, by go_num, Lib.hid O6, Lib.hid F6⟩
            · obtain rfl : k = K := by omega
              have hva := Lib.hid (bvalsPad_all S l k)
              rw [hva.out] at hO
              obtain ⟨_, r0, r1, q0, q1⟩ := TA.out.far hFa.out (by show ¬ w.heap.size = _; omega)
              have hz0 := (hFa.out.cell (p := ⟨sb, so, none⟩) (Nat.lt_of_lt_of_le hsb GA.out.size) (by show ¬ sb = _; omega)).trans ((GA.out.cell (p := ⟨sb, so, none⟩) hsb).trans HC0.out)
              have O6 := Lib.hid (hO.out.far (((Far.refl (fun x => x = w.heap.size) wr).setCell (p := ⟨w.heap.size, 0, none⟩) rfl (.int .u8 (a : Nat))).setCell (p := ⟨w.heap.size, 1, none⟩) rfl (.slice (some ⟨wX.heap.size, 0, none⟩) k k)) (fun x hx e => by have := hO.out.lt x hx; have : x = w.heap.size := e; omega))
              have OL := Lib.hid hO.out.lt
              have GR := Lib.hid (hFa.out.grew GA.out (fun x h => by have : x = wX.heap.size := h; omega))
              clear hO hFa HFI HLAY
              go_wp2_with fail
              refine bodyPost_ret (by simp [results, Tryz.results20, go_sem, r0, r1]; try rfl) rfl ?_
              rw [HP'.out]
              exact ⟨_, rfl, O6.out.row, fun _ x hx => by have := OL.out x hx; omega, twoC_put GR.out (Nat.le_refl _) _ _⟩
-- DEC]
end Go.Proofs.YtnhigfkhdmkoeaaGreatDoor


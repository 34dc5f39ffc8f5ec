/-
  The program's ring: its places, its new ones, its copies, its bytes.
-/
import Derived.Test.YtkoklmecijejkaaRngP
import Derived.Deep.CutBlock
namespace Go.Proofs.Ytkoklmecijejkaa
open Go.RowKit
set_option linter.unusedVariables false

theorem ring_places (w : World) (g size first held : Nat) (ns : List Nat) (lost : Nat) (h : ProgAt w g size first held ns lost) :
    Calls Try.prog 23 #[.pointer (some ⟨g, 0, none⟩)] w (PlacesOf first size w) := by
  have c1 := h.c1
  have c2 := h.c2
  have lt := h.lt
  clear h
  go_enter Try.func23, Try.ntmps23
  go_wp2_with fail
  go_region
  all_goals
    go_wp2_with fail
    go_ret
    refine ⟨_, _, rfl, by omega, by omega, ?_, ?_, (((Grew.refl w).alloc _).alloc _).drew⟩ <;> simp [go_sem]

/-- The cells of a new ring. -/
def ringCells (n : Int) : Array Value := Array.replicate 4096 (.int .u8 0) ++ #[.int .i64 n, .int .i64 0, .int .i64 0, .int .i64 0]
theorem ring_built (n : Int) : Try.prog.built 53 [(1, .int .i64 n)] = some (ringCells n) := by kernel_rfl
theorem ringCells_size (n : Int) : (ringCells n).size = 4100 := by simp [ringCells]
theorem ringCells_one (n : Int) : (ringCells n).all (·.oneCell') = true := by
  rw [Array.all_eq_true_iff_forall_mem]
  intro v hv
  simp only [ringCells, Array.mem_append, Array.mem_replicate] at hv
  rcases hv with ⟨_, rfl⟩ | hv
  · rfl
  · simp at hv; rcases hv with rfl | rfl <;> rfl

theorem ring_bad (n : Int) (w : World) (hn : -9223372036854775808 ≤ n ∧ n ≤ 9223372036854775807) (hb : n < 64 ∨ 4096 < n) :
    Calls Try.prog 7 #[.int .i64 n] w fun e w' => e = .returned (.tuple #[.pointer none, .int .i64 2]) ∧ Grew w w' := by
  rcases (show n < 64 ∨ (64 ≤ n ∧ 4096 < n) by omega) with h | h
  all_goals
    go_enter Try.func7, Try.ntmps7
    go_wp2_with fail
    go_ret2
    exact ⟨rfl, Grew.refl _⟩

theorem wpList_build_as {P : Program} {ops : Array Oper} {rest : List Oper} {o : Oper} {a : Act} {w : World} {Q : Exit → Act → World → Prop} (hg : o.guard = none) (t : TypeId) (parts : Array (Nat × Operand)) (ho : o.op = .build t parts) (cells : Array Value)
    (ps : List (Nat × Value)) (hp : (parts.toList.map fun (i, x) => (i, a.eval x)) = ps) (hf : P.built t ps = some cells) (h : wpList P ops Q rest (a.put o.dst (.agg cells)) w) : wpList P ops Q (o :: rest) a w :=
  have e : P.built t (parts.map fun (i, x) => (i, a.eval x)).toList = some cells := by rw [Array.toList_map, hp, hf]
  wpList_build hg t parts ho (by rw [e]; rfl) (by rw [e]; exact h)

set_option maxHeartbeats 1000000 in
set_option maxRecDepth 100000 in
theorem ring_New (n : Nat) (w : World) (hn : 64 ≤ n ∧ n ≤ 4096) :
    Calls Try.prog 7 #[.int .i64 n] w fun e w' => e = .returned (.tuple #[.pointer (some ⟨w.heap.size, 0, none⟩), .int .i64 0]) ∧ w' = w.alloc (.cells (ringCells n) 53) := by
  have HB := Lib.hid (ring_built n)
  generalize ringCells n = C at *
  go_enter Try.func7, Try.ntmps7
  go_wp2_with (refine wpList_build_as rfl 53 _ rfl C [(1, .int .i64 n)] rfl HB.out ?_)
  go_ret2
  exact ⟨rfl, rfl⟩
end Go.Proofs.Ytkoklmecijejkaa

/-
  A log of edges, plain: the last eight, in their order; how many are within bounds.
  The program's log of edges behind a pointer: an array that is gone round; its short calls.
-/
import Derived.Test.YtkijonnbngnliaaRowZ
import Derived.LoopTactic
import Derived.Deep.LoopGhost
import Derived.Handy
import Derived.Shelf.Abstract
namespace Go.Proofs.Ytkijonnbngnliaa
open Go.RowKit
set_option linter.unusedVariables false

/- A log of edges, plain: the last eight, in their order; how many are within bounds. -/
/-- An edge behind those that are kept, of which the oldest one goes, if there are eight. -/
def pushE (L : List Int) (c : Int) : List Int := if L.length < 8 then L ++ [c] else L.drop 1 ++ [c]
theorem pushE_length (L : List Int) (c : Int) (h : L.length ≤ 8) : (pushE L c).length ≤ 8 := by
  unfold pushE
  split
  · simp; omega
  · simp; omega
/-- The last one, or 0. -/
def lastE (L : List Int) : Int := if L.length = 0 then 0 else zi L (L.length - 1)
/-- May it come? -/
def mayE (L : List Int) (c : Int) : Bool := decide (¬ c < 0) && (decide (L.length = 0) || decide (¬ c < lastE L))
/-- What stands behind an edge that comes, or does not. -/
def addE (L : List Int) (c : Int) : List Int := if c < lastE L then L else pushE L c
/-- How many of the first i are within bounds. -/
def cntE (L : List Int) (a b : Int) : Nat → Nat
  | 0 => 0
  | i + 1 => cntE L a b i + (if a ≤ zi L i ∧ zi L i ≤ b then 1 else 0)
theorem cntE_le (L : List Int) (a b : Int) : ∀ i, cntE L a b i ≤ i
  | 0 => Nat.le_refl _
  | i + 1 => by
    have := cntE_le L a b i
    unfold cntE
    split <;> omega
/-- The edges that stand in the array ks, gone round from f on. -/
def logL (ks : Nat → Int) (f n : Nat) : List Int := (List.range n).map fun i => ks ((f + i) % 8)
theorem logL_length (ks : Nat → Int) (f n : Nat) : (logL ks f n).length = n := by simp [logL]
theorem logL_zi (ks : Nat → Int) (f n i : Nat) (h : i < n) : zi (logL ks f n) i = ks ((f + i) % 8) := by
  rw [zi_lt (by rw [logL_length]; exact h)]
  simp [logL]
/-- One cell of the array is another one. -/
def setE (ks : Nat → Int) (m : Nat) (c : Int) : Nat → Int := fun j => if j = m then c else ks j
theorem log_room (ks : Nat → Int) (f n : Nat) (c : Int) (hn : n < 8) : logL (setE ks ((f + n) % 8) c) f (n + 1) = pushE (logL ks f n) c := by
  unfold pushE
  rw [logL_length, if_pos hn]
  unfold logL
  rw [List.range_succ, List.map_append]
  congr 1
  · apply List.map_congr_left
    intro i hi
    have := List.mem_range.1 hi
    unfold setE
    rw [if_neg (by omega)]
  · simp [setE]
theorem log_full (ks : Nat → Int) (f : Nat) (c : Int) (hf : f < 8) : logL (setE ks ((f + 8) % 8) c) ((f + 1) % 8) 8 = pushE (logL ks f 8) c := by
  unfold pushE
  rw [logL_length, if_neg (by omega)]
  have h1 : (f + 8) % 8 = f := by omega
  rw [h1]
  unfold logL setE
  apply List.ext_getElem
  · simp
  · intro i h1 h2
    simp at h1
    rw [List.getElem_map, List.getElem_range]
    by_cases hi : i = 7
    · subst hi
      rw [if_pos (by omega)]
      simp
    · rw [if_neg (by omega), List.getElem_append_left (by simp; omega), List.getElem_drop, List.getElem_map, List.getElem_range]
      congr 1
      omega
/- The program's log of edges behind a pointer: an array that is gone round; its short calls. -/
/-- The eleven cells of a log from the o-th on of block g: made, what is kept, where the oldest one stands, how many. -/
structure LogAt (w : World) (g o : Nat) (ks : Nat → Int) (f n : Nat) : Prop where
  lt : g < w.heap.size
  hf : f < 8
  hn : n ≤ 8
  c0 : w.cell? ⟨g, o, none⟩ = some (.bool true)
  ca : ∀ j, j < 8 → w.cell? ⟨g, o + 1 + j, none⟩ = some (.int .i64 (ks j))
  c9 : w.cell? ⟨g, o + 9, none⟩ = some (.int .i64 (f : Nat))
  c10 : w.cell? ⟨g, o + 10, none⟩ = some (.int .i64 (n : Nat))
  fz : ∀ j, w.frozen? ⟨g, j, none⟩ = false
section
variable {F : Nat → Prop} {w w' : World} {g o : Nat} {ks : Nat → Int} {f n : Nat}
theorem LogAt.far (h : LogAt w g o ks f n) (k : Far F w w') (hg : ¬ F g) : LogAt w' g o ks f n :=
  ⟨Nat.lt_of_lt_of_le h.lt k.size, h.hf, h.hn, (k.cell (p := ⟨g, o, none⟩) h.lt hg).trans h.c0, fun j hj => (k.cell (p := ⟨g, _, none⟩) h.lt hg).trans (h.ca j hj), (k.cell (p := ⟨g, _, none⟩) h.lt hg).trans h.c9,
    (k.cell (p := ⟨g, _, none⟩) h.lt hg).trans h.c10, fun j => (k.frozen (p := ⟨g, j, none⟩) h.lt hg).trans (h.fz j)⟩
theorem LogAt.grew (h : LogAt w g o ks f n) (k : Grew w w') : LogAt w' g o ks f n := h.far (F := fun _ => False) (Far.of_grew k) (fun q => q)
theorem addrE_ne {g i j : Nat} (h : i ≠ j) : (⟨g, i, none⟩ : Addr) ≠ ⟨g, j, none⟩ := fun e => h (by injection e)
theorem LogAt.setK (h : LogAt w g o ks f n) (m : Nat) (hm : m < 8) (c : Int) : LogAt (w.setCell ⟨g, o + 1 + m, none⟩ (.int .i64 c)) g o (setE ks m c) f n := by
  refine ⟨by simpa [World.setCell] using h.lt, h.hf, h.hn, ?_, fun j hj => ?_, ?_, ?_, fun j => by simpa [go_sem] using h.fz j⟩
  · rw [World.cell?_setCell_other _ _ _ _ (addrE_ne (by omega))]; exact h.c0
  · unfold setE
    by_cases e : j = m
    · subst e
      rw [if_pos rfl]
      exact World.cell?_setCell_same _ _ _ (h.ca j hj)
    · rw [if_neg e, World.cell?_setCell_other _ _ _ _ (addrE_ne (by omega))]
      exact h.ca j hj
  · rw [World.cell?_setCell_other _ _ _ _ (addrE_ne (by omega))]; exact h.c9
  · rw [World.cell?_setCell_other _ _ _ _ (addrE_ne (by omega))]; exact h.c10
theorem LogAt.setF (h : LogAt w g o ks f n) (m : Nat) (hm : m < 8) : LogAt (w.setCell ⟨g, o + 9, none⟩ (.int .i64 (m : Nat))) g o ks m n := by
  refine ⟨by simpa [World.setCell] using h.lt, hm, h.hn, ?_, fun j hj => ?_, World.cell?_setCell_same _ _ _ h.c9, ?_, fun j => by simpa [go_sem] using h.fz j⟩
  · rw [World.cell?_setCell_other _ _ _ _ (addrE_ne (by omega))]; exact h.c0
  · rw [World.cell?_setCell_other _ _ _ _ (addrE_ne (by omega))]; exact h.ca j hj
  · rw [World.cell?_setCell_other _ _ _ _ (addrE_ne (by omega))]; exact h.c10
theorem LogAt.setN (h : LogAt w g o ks f n) (m : Nat) (hm : m ≤ 8) : LogAt (w.setCell ⟨g, o + 10, none⟩ (.int .i64 (m : Nat))) g o ks f m := by
  refine ⟨by simpa [World.setCell] using h.lt, h.hf, hm, ?_, fun j hj => ?_, ?_, World.cell?_setCell_same _ _ _ h.c10, fun j => by simpa [go_sem] using h.fz j⟩
  · rw [World.cell?_setCell_other _ _ _ _ (addrE_ne (by omega))]; exact h.c0
  · rw [World.cell?_setCell_other _ _ _ _ (addrE_ne (by omega))]; exact h.ca j hj
  · rw [World.cell?_setCell_other _ _ _ _ (addrE_ne (by omega))]; exact h.c9
end
-- [MADE
theorem edge_isMade (w : World) (g o : Nat) (ks : Nat → Int) (f n : Nat) (h : LogAt w g o ks f n) :
    Calls Try.prog 26 #[.pointer (some ⟨g, o, none⟩)] w fun e w' => e = .returned (.bool true) ∧ w = w' := by
  have c0 := h.c0
  have lt := h.lt
  clear h
  go_enter Try.func26, Try.ntmps26
  go_wp2_with fail
  go_ret
  exact ⟨rfl, rfl⟩
theorem edge_isMade_none (w : World) :
    Calls Try.prog 26 #[.pointer none] w fun e w' => e = .returned (.bool false) ∧ w = w' := by
  go_enter Try.func26, Try.ntmps26
  go_wp2_with fail
  go_ret
  exact ⟨rfl, rfl⟩
/-- Where the i-th edge stands. -/
theorem edge_place (w : World) (g o : Nat) (ks : Nat → Int) (f n : Nat) (i : Int) (h : LogAt w g o ks f n) (hi : 0 ≤ i ∧ i ≤ 8) :
    Calls Try.prog 31 #[.pointer (some ⟨g, o, none⟩), .int .i64 i] w fun e w' => e = .returned (.int .i64 (((f + i.toNat) % 8 : Nat) : Int)) ∧ w = w' := by
  have c9 := h.c9
  have lt := h.lt
  have hf := h.hf
  clear h
  have e1 : IntKind.i64.wrap ((f : Int) + i) = (f : Int) + i := IntWalk.i64_in _ (by omega)
  go_enter Try.func31, Try.ntmps31
  go_wp2_with fail
  go_ret
  exact ⟨ret_int (by omega), rfl⟩
-- MADE]
end Go.Proofs.Ytkijonnbngnliaa

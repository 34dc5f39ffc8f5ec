/-
  The document's fields: times, dates, one of some bytes.
-/
import Derived.Test.YtajgicliepenkaaDoorFldT
import Derived.Deep.QuietTactic
import Derived.BigQuiet
namespace Go.Proofs.YtajgicliepenkaaDoor
open Go.RowKit
set_option linter.unusedVariables false


/-- A variable of four cells. -/
structure FourAt (w : World) (b : Nat) (x0 x1 x2 x3 : Value) : Prop where
  lt : b < w.heap.size
  c0 : w.cell? ⟨b, 0, none⟩ = some x0
  c1 : w.cell? ⟨b, 1, none⟩ = some x1
  c2 : w.cell? ⟨b, 2, none⟩ = some x2
  c3 : w.cell? ⟨b, 3, none⟩ = some x3
  f0 : w.frozen? ⟨b, 0, none⟩ = false
  f1 : w.frozen? ⟨b, 1, none⟩ = false
  f2 : w.frozen? ⟨b, 2, none⟩ = false
  f3 : w.frozen? ⟨b, 3, none⟩ = false
section
variable {w w' : World} {b c : Nat} {x0 x1 x2 x3 : Value}
theorem FourAt.new (w : World) (x0 x1 x2 x3 : Value) (E : TypeId) : FourAt (w.alloc (.cells #[x0, x1, x2, x3] E)) w.heap.size x0 x1 x2 x3 := by
  refine ⟨by simp, ?_, ?_, ?_, ?_, ?_, ?_, ?_, ?_⟩ <;> simp [go_sem]
theorem FourAt.grew (h : FourAt w b x0 x1 x2 x3) (g : Grew w w') : FourAt w' b x0 x1 x2 x3 :=
  ⟨Nat.lt_of_lt_of_le h.lt g.size, (g.cell (p := ⟨b, 0, none⟩) h.lt).trans h.c0, (g.cell (p := ⟨b, 1, none⟩) h.lt).trans h.c1, (g.cell (p := ⟨b, 2, none⟩) h.lt).trans h.c2, (g.cell (p := ⟨b, 3, none⟩) h.lt).trans h.c3,
   (g.frozen (p := ⟨b, 0, none⟩) h.lt).trans h.f0, (g.frozen (p := ⟨b, 1, none⟩) h.lt).trans h.f1, (g.frozen (p := ⟨b, 2, none⟩) h.lt).trans h.f2, (g.frozen (p := ⟨b, 3, none⟩) h.lt).trans h.f3⟩
theorem cell_ne4 {i j : Nat} (h : i ≠ j) : (⟨b, i, none⟩ : Addr) ≠ ⟨b, j, none⟩ := fun e => h (by injection e)
theorem FourAt.set3 (h : FourAt w b x0 x1 x2 x3) (y : Value) : FourAt (w.setCell ⟨b, 3, none⟩ y) b x0 x1 x2 y :=
  ⟨by simpa [World.setCell] using h.lt, (World.cell?_setCell_other _ _ _ _ (cell_ne4 (by omega))).trans h.c0, (World.cell?_setCell_other _ _ _ _ (cell_ne4 (by omega))).trans h.c1, (World.cell?_setCell_other _ _ _ _ (cell_ne4 (by omega))).trans h.c2, World.cell?_setCell_same _ _ _ h.c3,
   by simpa using h.f0, by simpa using h.f1, by simpa using h.f2, by simpa using h.f3⟩
theorem FourAt.set0 (h : FourAt w b x0 x1 x2 x3) (y : Value) : FourAt (w.setCell ⟨b, 0, none⟩ y) b y x1 x2 x3 :=
  ⟨by simpa [World.setCell] using h.lt, World.cell?_setCell_same _ _ _ h.c0, (World.cell?_setCell_other _ _ _ _ (cell_ne4 (by omega))).trans h.c1, (World.cell?_setCell_other _ _ _ _ (cell_ne4 (by omega))).trans h.c2, (World.cell?_setCell_other _ _ _ _ (cell_ne4 (by omega))).trans h.c3,
   by simpa using h.f0, by simpa using h.f1, by simpa using h.f2, by simpa using h.f3⟩
theorem FourAt.set1 (h : FourAt w b x0 x1 x2 x3) (y : Value) : FourAt (w.setCell ⟨b, 1, none⟩ y) b x0 y x2 x3 :=
  ⟨by simpa [World.setCell] using h.lt, (World.cell?_setCell_other _ _ _ _ (cell_ne4 (by omega))).trans h.c0, World.cell?_setCell_same _ _ _ h.c1, (World.cell?_setCell_other _ _ _ _ (cell_ne4 (by omega))).trans h.c2, (World.cell?_setCell_other _ _ _ _ (cell_ne4 (by omega))).trans h.c3,
   by simpa using h.f0, by simpa using h.f1, by simpa using h.f2, by simpa using h.f3⟩
theorem FourAt.set2 (h : FourAt w b x0 x1 x2 x3) (y : Value) : FourAt (w.setCell ⟨b, 2, none⟩ y) b x0 x1 y x3 :=
  ⟨by simpa [World.setCell] using h.lt, (World.cell?_setCell_other _ _ _ _ (cell_ne4 (by omega))).trans h.c0, (World.cell?_setCell_other _ _ _ _ (cell_ne4 (by omega))).trans h.c1, World.cell?_setCell_same _ _ _ h.c2, (World.cell?_setCell_other _ _ _ _ (cell_ne4 (by omega))).trans h.c3,
   by simpa using h.f0, by simpa using h.f1, by simpa using h.f2, by simpa using h.f3⟩
theorem FourAt.other (h : FourAt w b x0 x1 x2 x3) (hne : b ≠ c) (i : Nat) (y : Value) : FourAt (w.setCell ⟨c, i, none⟩ y) b x0 x1 x2 x3 := by
  have ne : ∀ {i j : Nat}, (⟨c, i, none⟩ : Addr) ≠ ⟨b, j, none⟩ := fun e => hne (by injection e with e; exact e.symm)
  exact ⟨by simpa [World.setCell] using h.lt, (World.cell?_setCell_other _ _ _ _ ne).trans h.c0, (World.cell?_setCell_other _ _ _ _ ne).trans h.c1, (World.cell?_setCell_other _ _ _ _ ne).trans h.c2, (World.cell?_setCell_other _ _ _ _ ne).trans h.c3,
   by simpa using h.f0, by simpa using h.f1, by simpa using h.f2, by simpa using h.f3⟩
end
def fourSet (w : World) (b : Nat) (y0 y1 y2 y3 : Value) : World := (((w.setCell ⟨b, 0, none⟩ y0).setCell ⟨b, 1, none⟩ y1).setCell ⟨b, 2, none⟩ y2).setCell ⟨b, 3, none⟩ y3
theorem FourAt.all {w : World} {b : Nat} {x0 x1 x2 x3 : Value} (h : FourAt w b x0 x1 x2 x3) (y0 y1 y2 y3 : Value) : FourAt (fourSet w b y0 y1 y2 y3) b y0 y1 y2 y3 := (((h.set0 y0).set1 y1).set2 y2).set3 y3
theorem Grew.four {w w' : World} (g : Grew w w') (b : Nat) (hb : w.heap.size ≤ b) (y0 y1 y2 y3 : Value) : Grew w (fourSet w' b y0 y1 y2 y3) := (((g.setCell (p := ⟨b, 0, none⟩) hb _).setCell (p := ⟨b, 1, none⟩) hb _).setCell (p := ⟨b, 2, none⟩) hb _).setCell (p := ⟨b, 3, none⟩) hb _
theorem clockW (w : World) (E1 E2 : TypeId) : ∃ W, (w.alloc (.cells #[.int .i64 0, .int .i64 0, .int .i64 0, .bool false] E1)).alloc (.cells #[.int .i64 0, .int .i64 0, .int .i64 0, .bool false] E2) = W ∧ Grew w W ∧ FourAt W w.heap.size (.int .i64 0) (.int .i64 0) (.int .i64 0) (.bool false) ∧ FourAt W (w.heap.size + 1) (.int .i64 0) (.int .i64 0) (.int .i64 0) (.bool false) := by
  have h := FourAt.new (w.alloc (.cells #[.int .i64 0, .int .i64 0, .int .i64 0, .bool false] E1)) (.int .i64 0) (.int .i64 0) (.int .i64 0) (.bool false) E2
  rw [World.size_alloc] at h
  exact ⟨_, rfl, ((Grew.refl w).alloc _).alloc _, (FourAt.new w _ _ _ _ _).grew ((Grew.refl _).alloc _), h⟩

theorem all_more (S : List Nat) (p : Nat → Bool) (m : Nat) (hm : 7 ≤ m) (hl : m < S.length) : ((S.drop 7).take (m + 1 - 7)).all p = (((S.drop 7).take (m - 7)).all p && p (wd S m)) := by
  rw [show m + 1 - 7 = (m - 7) + 1 by omega, List.take_add_one, List.all_append, List.getElem?_drop, show 7 + (m - 7) = m by omega, List.getElem?_eq_getElem hl, wd_lt hl]
  simp
/-- A time of day, as it is told. -/
def dayVal (c : (Nat × Nat × Nat × Bool) × Nat) : Value := .tuple #[.agg #[.int .i64 (c.1.1 : Nat), .int .i64 (c.1.2.1 : Nat), .int .i64 (c.1.2.2.1 : Nat), .bool c.1.2.2.2], .int .i64 (c.2 : Nat)]



end Go.Proofs.YtajgicliepenkaaDoor

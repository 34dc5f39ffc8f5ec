/-
  The program's sentences: a kind by a first field.
-/
import Derived.Test.YtajgicliepenkaaDoorNmpP
import Derived.LoopTactic
namespace Go.Proofs.YtajgicliepenkaaDoor
open Go.RowKit
set_option linter.unusedVariables false

/-- A kind's variable. -/
structure KAt (w : World) (b : Nat) (x0 x1 x2 x3 x4 : Value) : Prop where
  lt : b < w.heap.size
  c0 : w.cell? ⟨b, 0, none⟩ = some x0
  c1 : w.cell? ⟨b, 1, none⟩ = some x1
  c2 : w.cell? ⟨b, 2, none⟩ = some x2
  c3 : w.cell? ⟨b, 3, none⟩ = some x3
  c4 : w.cell? ⟨b, 4, none⟩ = some x4
  f0 : w.frozen? ⟨b, 0, none⟩ = false
  f1 : w.frozen? ⟨b, 1, none⟩ = false
  f2 : w.frozen? ⟨b, 2, none⟩ = false
  f3 : w.frozen? ⟨b, 3, none⟩ = false
  f4 : w.frozen? ⟨b, 4, none⟩ = false
theorem KAt.of {w : World} {b : Nat} {x0 x1 x2 x3 x4 : Value} {t : TypeId} (h : w.heap[b]? = some (.cells #[x0, x1, x2, x3, x4] t)) : KAt w b x0 x1 x2 x3 x4 :=
  ⟨(Array.getElem?_eq_some_iff.1 h).1, by simp [World.cell?, h], by simp [World.cell?, h], by simp [World.cell?, h], by simp [World.cell?, h], by simp [World.cell?, h], by simp [World.frozen?, h], by simp [World.frozen?, h], by simp [World.frozen?, h], by simp [World.frozen?, h], by simp [World.frozen?, h]⟩
theorem KAt.grew {w w' : World} {b : Nat} {x0 x1 x2 x3 x4 : Value} (h : KAt w b x0 x1 x2 x3 x4) (g : Grew w w') : KAt w' b x0 x1 x2 x3 x4 :=
  ⟨Nat.lt_of_lt_of_le h.lt g.size, (g.cell (p := ⟨b, 0, none⟩) h.lt).trans h.c0, (g.cell (p := ⟨b, 1, none⟩) h.lt).trans h.c1, (g.cell (p := ⟨b, 2, none⟩) h.lt).trans h.c2, (g.cell (p := ⟨b, 3, none⟩) h.lt).trans h.c3, (g.cell (p := ⟨b, 4, none⟩) h.lt).trans h.c4,
   (g.frozen (p := ⟨b, 0, none⟩) h.lt).trans h.f0, (g.frozen (p := ⟨b, 1, none⟩) h.lt).trans h.f1, (g.frozen (p := ⟨b, 2, none⟩) h.lt).trans h.f2, (g.frozen (p := ⟨b, 3, none⟩) h.lt).trans h.f3, (g.frozen (p := ⟨b, 4, none⟩) h.lt).trans h.f4⟩
theorem newKind (w : World) : ∃ W, w.alloc (.cells #[.int .u8 0, .int .i64 0, .int .i64 0, .slice none 0 0, .nilFunc] 38) = W ∧ Grew w W ∧ W.heap[w.heap.size]? = some (.cells #[.int .u8 0, .int .i64 0, .int .i64 0, .slice none 0 0, .nilFunc] 38) ∧ W.heap.size = w.heap.size + 1 :=
  ⟨_, rfl, (Grew.refl w).alloc _, heap_alloc_new w _, by simp⟩
def kset (w : World) (b : Nat) (x0 x1 x2 x3 x4 : Value) : World := ((((w.setCell ⟨b, 0, none⟩ x0).setCell ⟨b, 1, none⟩ x1).setCell ⟨b, 2, none⟩ x2).setCell ⟨b, 3, none⟩ x3).setCell ⟨b, 4, none⟩ x4
theorem KAt.set0 {w : World} {b : Nat} {x0 x1 x2 x3 x4 : Value} (h : KAt w b x0 x1 x2 x3 x4) (y0 y1 y2 y3 y4 : Value) : KAt (kset w b y0 y1 y2 y3 y4) b y0 y1 y2 y3 y4 := by
  have ne : ∀ {i j : Nat}, i ≠ j → (⟨b, i, none⟩ : Addr) ≠ ⟨b, j, none⟩ := fun hj e => hj (by injection e)
  unfold kset
  refine ⟨by simpa [World.setCell] using h.lt, ?_, ?_, ?_, ?_, ?_, by simpa using h.f0, by simpa using h.f1, by simpa using h.f2, by simpa using h.f3, by simpa using h.f4⟩
  · rw [World.cell?_setCell_other _ _ _ _ (ne (by omega)), World.cell?_setCell_other _ _ _ _ (ne (by omega)), World.cell?_setCell_other _ _ _ _ (ne (by omega)), World.cell?_setCell_other _ _ _ _ (ne (by omega))]
    exact World.cell?_setCell_same _ _ _ h.c0
  · rw [World.cell?_setCell_other _ _ _ _ (ne (by omega)), World.cell?_setCell_other _ _ _ _ (ne (by omega)), World.cell?_setCell_other _ _ _ _ (ne (by omega))]
    exact World.cell?_setCell_same _ _ _ ((World.cell?_setCell_other _ _ _ _ (ne (by omega))).trans h.c1)
  · rw [World.cell?_setCell_other _ _ _ _ (ne (by omega)), World.cell?_setCell_other _ _ _ _ (ne (by omega))]
    exact World.cell?_setCell_same _ _ _ ((World.cell?_setCell_other _ _ _ _ (ne (by omega))).trans ((World.cell?_setCell_other _ _ _ _ (ne (by omega))).trans h.c2))
  · rw [World.cell?_setCell_other _ _ _ _ (ne (by omega))]
    exact World.cell?_setCell_same _ _ _ ((World.cell?_setCell_other _ _ _ _ (ne (by omega))).trans ((World.cell?_setCell_other _ _ _ _ (ne (by omega))).trans ((World.cell?_setCell_other _ _ _ _ (ne (by omega))).trans h.c3)))
  · exact World.cell?_setCell_same _ _ _ ((World.cell?_setCell_other _ _ _ _ (ne (by omega))).trans ((World.cell?_setCell_other _ _ _ _ (ne (by omega))).trans ((World.cell?_setCell_other _ _ _ _ (ne (by omega))).trans ((World.cell?_setCell_other _ _ _ _ (ne (by omega))).trans h.c4))))
theorem far_kset (w : World) (b : Nat) (x0 x1 x2 x3 x4 : Value) : Far (fun k => k = b) w (kset w b x0 x1 x2 x3 x4) :=
  Far.setCell (F := fun k => k = b) (Far.setCell (F := fun k => k = b) (Far.setCell (F := fun k => k = b) (Far.setCell (F := fun k => k = b) (Far.one w ⟨b, 0, none⟩ x0) (p := ⟨b, 1, none⟩) rfl x1) (p := ⟨b, 2, none⟩) rfl x2) (p := ⟨b, 3, none⟩) rfl x3) (p := ⟨b, 4, none⟩) rfl x4
def zeroKind : Value := .agg #[.int .u8 0, .int .i64 0, .int .i64 0, .slice none 0 0, .nilFunc]
theorem NKinds.grew {w w' : World} {M : Nat} (h : NKinds w M) (g : Grew w w') : NKinds w' M := by
  have hs := h.size
  exact ⟨(g.below.block _ (by omega)).trans h.map, Nat.le_trans hs g.size, (g.below.block _ (by omega)).trans h.r, (g.below.block _ (by omega)).trans h.l, (g.below.block _ (by omega)).trans h.a, (g.below.block _ (by omega)).trans h.v⟩
theorem NKinds.far {w w' : World} {M b : Nat} (h : NKinds w M) (g : Far (fun k => k = b) w w') (hb : b < M ∨ M + 5 ≤ b) : NKinds w' M := by
  have hs := h.size
  exact ⟨(g.block _ (by omega) (by omega)).trans h.map, Nat.le_trans hs g.size, (g.block _ (by omega) (by omega)).trans h.r, (g.block _ (by omega) (by omega)).trans h.l, (g.block _ (by omega) (by omega)).trans h.a, (g.block _ (by omega) (by omega)).trans h.v⟩

theorem nk_zero (w : World) : Sem.run Tryd.prog (zeroValue 38) w = .ok zeroKind w := by kernel_rfl
theorem nkinds_empty (M : Nat) : (nkinds M 7).isEmpty = false := rfl
theorem nk_found (w : World) (M k : Nat) (hb : w.heap[M]? = some (.map (nkinds M 7) 7)) (hk : k < 7) :
    Sem.run Tryd.prog (Instr.lookup 61 (.map (some M)) (.string (nkeys.getD k ⟨#[]⟩)) true) w = .ok (.tuple #[(nvals M).getD k (.int .i64 0), .bool true]) w := by
  have hf : Instr.findNow .string (.string (nkeys.getD k ⟨#[]⟩)) (nkinds M 7).toList 0 = some (some (k, (nvals M).getD k (.int .i64 0))) := by
    rcases (show k = 0 ∨ k = 1 ∨ k = 2 ∨ k = 3 ∨ k = 4 ∨ k = 5 ∨ k = 6 by omega) with rfl | rfl | rfl | rfl | rfl | rfl | rfl <;> rfl
  have hc : (Instr.checkKey (nkinds M 7).isEmpty 10000 9 (.string (nkeys.getD k ⟨#[]⟩))).run Tryd.prog w = .ok () w := MapKept.run_checkKey (k := .string _) Tryd.underlying9 (by simp [MapKept.IsKey]) _ 9999
  generalize nkeys.getD k ⟨#[]⟩ = x at *
  simp [Instr.lookup, run_underlying Tryd.underlying61, MapKept.run_getObj_map hb, hc, MapKept.run_findKey Tryd.underlying9 hf, Result.andThen]
theorem nkinds_keys (M : Nat) : ∀ x ∈ (nkinds M 7).toList, ∃ k, k < 7 ∧ x.key = .string (nkeys.getD k ⟨#[]⟩) := by
  intro x hx
  unfold nkinds at hx
  simp only [List.mem_map, List.mem_range] at hx
  obtain ⟨k, hk, rfl⟩ := hx
  exact ⟨k, hk, rfl⟩
theorem nk_lost (w : World) (M : Nat) (x : ByteArray) (hb : w.heap[M]? = some (.map (nkinds M 7) 7)) (hx : ∀ k, k < 7 → x ≠ nkeys.getD k ⟨#[]⟩) :
    Sem.run Tryd.prog (Instr.lookup 61 (.map (some M)) (.string x) true) w = .ok (.tuple #[zeroKind, .bool false]) w := by
  have hf : Instr.findNow .string (.string x) (nkinds M 7).toList 0 = some none := by
    rcases MapKept.findNow_spec (d := .string) (k := .string x) (by simp [MapKept.IsKey]) (nkinds M 7).toList 0 (fun y hy => by obtain ⟨k, _, e⟩ := nkinds_keys M y hy; rw [e]; simp [MapKept.IsKey]) with ⟨h, _⟩ | ⟨j, e, _, he, hk⟩
    · exact h
    · obtain ⟨k, h7, e2⟩ := nkinds_keys M e (List.mem_of_getElem? he)
      rw [e2] at hk
      simp only [Value.string.injEq] at hk
      exact absurd hk.symm (hx k h7)
  have hc : (Instr.checkKey (nkinds M 7).isEmpty 10000 9 (.string x)).run Tryd.prog w = .ok () w := MapKept.run_checkKey (k := .string x) Tryd.underlying9 (by simp [MapKept.IsKey]) _ 9999
  have kz := nk_zero w
  simp [Instr.lookup, run_underlying Tryd.underlying61, MapKept.run_getObj_map hb, hc, MapKept.run_findKey Tryd.underlying9 hf, Result.andThen, kz]

/-- Letters are a kind's key, or none. -/
theorem letters_key (x : ByteArray) : (lettersOf (nat x) = 0 ∧ ∀ k, k < 7 → x ≠ nkeys.getD k ⟨#[]⟩) ∨ ∃ k, k < 7 ∧ lettersOf (nat x) = k + 1 ∧ x = nkeys.getD k ⟨#[]⟩ := by
  by_cases h : ∃ k, k < 7 ∧ x = nkeys.getD k ⟨#[]⟩
  · obtain ⟨k, hk, rfl⟩ := h
    refine .inr ⟨k, hk, ?_, rfl⟩
    rcases (show k = 0 ∨ k = 1 ∨ k = 2 ∨ k = 3 ∨ k = 4 ∨ k = 5 ∨ k = 6 by omega) with rfl | rfl | rfl | rfl | rfl | rfl | rfl <;> rfl
  · refine .inl ⟨?_, fun k hk e => h ⟨k, hk, e⟩⟩
    have g : ∀ k, k < 7 → nat x ≠ nat (nkeys.getD k ⟨#[]⟩) := fun k hk e => h ⟨k, hk, nat_ext e⟩
    unfold lettersOf
    rw [if_neg (show ¬ nat x = [82, 77, 67] from g 0 (by omega)), if_neg (show ¬ nat x = [71, 71, 65] from g 1 (by omega)), if_neg (show ¬ nat x = [71, 76, 76] from g 2 (by omega)), if_neg (show ¬ nat x = [71, 83, 65] from g 3 (by omega)), if_neg (show ¬ nat x = [90, 68, 65] from g 4 (by omega)), if_neg (show ¬ nat x = [86, 84, 71] from g 5 (by omega)), if_neg (show ¬ nat x = [71, 83, 86] from g 6 (by omega))]
/-- What is told of a first field's kind. -/
def KindT (s : ByteArray) (w : World) (e : Ending) (w' : World) : Prop :=
  Grew w w' ∧ ((kindOfN (nat s) = 0 ∧ e = .returned (.tuple #[zeroKind, .bool false])) ∨ ∃ k M, k < 7 ∧ kindOfN (nat s) = k + 1 ∧ e = .returned (.tuple #[(nvals M).getD k (.int .i64 0), .bool true]) ∧ NKinds w' M ∧ w.heap.size ≤ M)
end Go.Proofs.YtajgicliepenkaaDoor

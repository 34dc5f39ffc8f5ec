/-
  Slices that read as lists of integers; rows of integers of a call's own.
-/
import Derived.Test.YtkijonnbngnliaaRowK
import Derived.Test.YtkijonnbngnliaaFar
namespace Go.Proofs.Ytkijonnbngnliaa
open Go.RowKit
set_option linter.unusedVariables false

def zi (zs : List Int) (i : Nat) : Int := zs.getD i 0
theorem zi_lt {zs : List Int} {i : Nat} (h : i < zs.length) : zi zs i = zs[i] := by simp [zi, h]
theorem zi_get {zs : List Int} {i : Nat} (h : i < zs.length) : zs[i]? = some (zi zs i) := by rw [zi_lt h]; exact List.getElem?_eq_getElem h
/-- A slice value that reads as the integers zs of kind k. -/
def RowZ (k : IntKind) (w : World) (v : Value) (zs : List Int) : Prop :=
  ∃ (A : Option Addr) (c : Nat), v = .slice A zs.length c ∧ zs.length ≤ c ∧
    (0 < zs.length → ∃ b o, A = some ⟨b, o, none⟩ ∧ b < w.heap.size ∧ ∀ i, i < zs.length → w.cell? ⟨b, o + i, none⟩ = some (.int k (zi zs i)))
theorem RowZ.far {F : Nat → Prop} {k : IntKind} {w w' : World} {v : Value} {zs : List Int} (h : RowZ k w v zs) (g : Far F w w') (hF : ∀ b, v.ownBlock = some b → ¬ F b) : RowZ k w' v zs := by
  obtain ⟨A, c, rfl, hc, hr⟩ := h
  refine ⟨A, c, rfl, hc, fun hn => ?_⟩
  obtain ⟨b, o, rfl, hb, hcell⟩ := hr hn
  exact ⟨b, o, rfl, Nat.lt_of_lt_of_le hb g.size, fun i hi => (g.cell (p := ⟨b, o + i, none⟩) hb (hF b rfl)).trans (hcell i hi)⟩
theorem RowZ.grew {k : IntKind} {w w' : World} {v : Value} {zs : List Int} (h : RowZ k w v zs) (g : Grew w w') : RowZ k w' v zs :=
  h.far (F := fun _ => False) (Far.of_grew g) (fun _ _ q => q)
theorem RowZ.nil (k : IntKind) (w : World) : RowZ k w (.slice none 0 0) [] := ⟨none, 0, rfl, by simp, fun h => by simp at h⟩
theorem RowZ.form {k : IntKind} {w : World} {v : Value} {zs : List Int} (h : RowZ k w v zs) : ∃ A c, v = .slice A zs.length c ∧ zs.length ≤ c := by
  obtain ⟨A, c, e, hc, _⟩ := h; exact ⟨A, c, e, hc⟩
theorem RowZ.at_ {k : IntKind} {w : World} {A : Option Addr} {n c : Nat} {zs : List Int} (h : RowZ k w (.slice A n c) zs) {i : Nat} (hi : i < zs.length) :
    ∃ b o, A = some ⟨b, o, none⟩ ∧ b < w.heap.size ∧ w.cell? ⟨b, o + i, none⟩ = some (.int k (zi zs i)) := by
  obtain ⟨A', c', e, _, hr⟩ := h
  obtain ⟨b, o, e2, hb, hcl⟩ := hr (by omega)
  simp only [Value.slice.injEq] at e
  exact ⟨b, o, e.1.trans e2, hb, hcl i hi⟩
theorem RowZ.of_block {w : World} {k : IntKind} {g : Nat} {cs : Array Value} {E : TypeId} {fr : Nat × Nat} {zs : List Int} (h : w.heap[g]? = some (.cells cs E fr)) (hc : ∀ i, i < zs.length → cs[i]? = some (.int k (zi zs i))) (c : Nat) (hl : zs.length ≤ c) :
    RowZ k w (.slice (some ⟨g, 0, none⟩) zs.length c) zs :=
  ⟨_, c, rfl, hl, fun _ => ⟨g, 0, rfl, (Array.getElem?_eq_some_iff.1 h).1, fun i hi => by rw [cell_of_row w g (0 + i) cs E fr h, Nat.zero_add]; exact hc i hi⟩⟩
/-- The integers as cells. -/
def cellsZ (k : IntKind) (zs : List Int) : List Value := zs.map fun n => Value.int k n
theorem row_litZ (w : World) (k : IntKind) (E : TypeId) (fr : Nat × Nat) (zs : List Int) : RowZ k (w.alloc (.cells (cellsZ k zs).toArray E fr)) (.slice (some ⟨w.heap.size, 0, none⟩) zs.length zs.length) zs :=
  RowZ.of_block (heap_alloc_new _ _) (fun i hi => by simp [cellsZ, zi, hi]) _ (Nat.le_refl _)
/-- A row of integers of the call's own, from block B on. -/
def OwnZ (B : Nat) (E : TypeId) (k : IntKind) (w : World) (v : Value) (zs : List Int) : Prop := w.ownsRow B E 1 v zs.length (cellsZ k zs)
theorem OwnZ.nil (B : Nat) (E : TypeId) (k : IntKind) (w : World) : OwnZ B E k w (.slice none 0 0) [] := World.ownsRow_nil _ _ _ _
theorem OwnZ.grew {B : Nat} {E : TypeId} {k : IntKind} {w w' : World} {v : Value} {zs : List Int} (h : OwnZ B E k w v zs) (g : Grew w w') : OwnZ B E k w' v zs := by
  obtain ⟨h1, h2⟩ := h
  refine ⟨h1, ?_⟩
  rcases h2 with h2 | ⟨b, cap, cur, e, hb, hh, r⟩
  · exact .inl h2
  · exact .inr ⟨b, cap, cur, e, hb, (Below.block g b (Array.getElem?_eq_some_iff.1 hh).1).trans hh, r⟩
theorem OwnZ.row {B : Nat} {E : TypeId} {k : IntKind} {w : World} {v : Value} {zs : List Int} (h : OwnZ B E k w v zs) : RowZ k w v zs := by
  have h' := h
  obtain ⟨h1, h2⟩ := h
  rcases h2 with ⟨rfl, h2⟩ | ⟨b, cap, cur, rfl, hb, hh, hn, r⟩
  · exact ⟨none, 0, by rw [h2], by omega, fun h => by omega⟩
  · refine ⟨_, cap, rfl, hn, fun hp => ⟨b, 0, rfl, (Array.getElem?_eq_some_iff.1 hh).1, fun i hi => ?_⟩⟩
    rw [Nat.zero_add, World.ownsRow.cellAt h' i (by omega)]
    simp [cellsZ, zi, hi]
theorem OwnZ.lt {B : Nat} {E : TypeId} {k : IntKind} {w : World} {v : Value} {zs : List Int} (h : OwnZ B E k w v zs) : ∀ b, v.ownBlock = some b → B ≤ b ∧ b < w.heap.size := fun b hb => World.ownsRow.lt h b hb
theorem Grew.pushZ {w0 w w' : World} {E : TypeId} {k : IntKind} {v : Value} {zs : List Int} (g : Grew w0 w) (h : OwnZ w0.heap.size E k w v zs) (hg : w.grownBy w' v.ownBlock) : Grew w0 w' :=
  Below.grown g hg g.size (fun b hb => (World.ownsRow.lt h b hb).1)
section
variable {P : Program} (w : World)
/-- 'append(out, x)' of one integer, the row the call's own. -/
theorem wpList_pushZ {ops : Array Oper} {rest : List Oper} {o : Oper} {a : Act} {Q : Exit → Act → World → Prop} (hgd : o.guard = none) (s x : Operand) (t : TypeId)
    (ho : o.op = .call { callee := .builtin .append, args := #[s, x], argTypes := #[t, t] })
    (base : Nat) (E : TypeId) (k : IntKind) (bytes : Nat) (ht : P.underlying t = some (.slice E)) (hi : (P.info? E).map (fun i => (i.zero, i.size, i.bytes)) = some (some (.int k 0), 1, bytes))
    (v : Value) (zs : List Int) (hs : a.eval s = v) (hown : OwnZ base E k w v zs)
    (ad : Addr) (n : Int) (hx : a.eval x = .slice (some ad) 1 1) (hc : w.cell? ad = some (.int k n))
    (hlen : (zs.length + 1) * bytes ≤ 140737488355328) (hb : 0 < bytes) (hbase : base ≤ w.heap.size)
    (h : ∀ v' w', OwnZ base E k w' v' (zs ++ [n]) → w.grownBy w' v.ownBlock → wpList P ops Q rest (a.put o.dst v') w') : wpList P ops Q (o :: rest) a w := by
  obtain ⟨i, hi0, hz0, hz1, hz2⟩ := info_parts hi
  refine wpList_append_own w hgd s x t ho base E i (.int k 0) 1 bytes ht hi0 hz0 hz1 hz2 rfl (by decide) v zs.length (cellsZ k zs) hs hown ad 1 1 [.int k n] hx rfl ?_ ?_ ?_ hlen hbase ?_
  · intro j u hj
    match j, hj with
    | 0, hj => simp at hj; subst hj; simpa [Addr.add] using hc
  · intro u hu; simp at hu; subst hu; rfl
  · have := Nat.le_mul_of_pos_right (zs.length + 1) hb
    unfold maxLen; omega
  · intro v' w' h1 h2 _
    refine h v' w' ?_ h2
    unfold OwnZ cellsZ
    simpa [cellsZ] using h1
/-- The same as one step of a region that draws. -/
theorem step_pushZ {ops : Array Oper} {o : Oper} {a : Act} {K : Act → World → Prop} {Q : Exit → Act → World → Prop} {X : Prop} (hgd : o.guard = none) (s x : Operand) (t : TypeId)
    (ho : o.op = .call { callee := .builtin .append, args := #[s, x], argTypes := #[t, t] })
    (base : Nat) (E : TypeId) (k : IntKind) (bytes : Nat) (ht : P.underlying t = some (.slice E)) (hi : (P.info? E).map (fun i => (i.zero, i.size, i.bytes)) = some (some (.int k 0), 1, bytes))
    (v : Value) (zs : List Int) (hs : a.eval s = v) (hown : OwnZ base E k w v zs)
    (ad : Addr) (n : Int) (hx : a.eval x = .slice (some ad) 1 1) (hc : w.cell? ad = some (.int k n))
    (hlen : (zs.length + 1) * bytes ≤ 140737488355328) (hb : 0 < bytes) (hbase : base ≤ w.heap.size)
    (h : ∀ v' w', OwnZ base E k w' v' (zs ++ [n]) → w.grownBy w' v.ownBlock → K (a.put o.dst v') w') : if Region.wanted o (yielded ops a.tmps) = true then Oper.wp P o a w K Q else X := by
  rw [if_pos (by simp [Region.wanted, hgd])]
  obtain ⟨i, hi0, hz0, hz1, hz2⟩ := info_parts hi
  refine wp_append_own w s x t ho base E i (.int k 0) 1 bytes ht hi0 hz0 hz1 hz2 rfl (by decide) v zs.length (cellsZ k zs) hs hown ad 1 1 [.int k n] hx rfl ?_ ?_ ?_ hlen hbase ?_
  · intro j u hj
    match j, hj with
    | 0, hj => simp at hj; subst hj; simpa [Addr.add] using hc
  · intro u hu; simp at hu; subst hu; rfl
  · have := Nat.le_mul_of_pos_right (zs.length + 1) hb
    unfold maxLen; omega
  · intro v' w' h1 h2 _
    refine h v' w' ?_ h2
    unfold OwnZ cellsZ
    simpa [cellsZ] using h1
/-- An own row that has numbers begins at its block's head. -/
theorem OwnZ.head {w : World} {B : Nat} {E : TypeId} {k : IntKind} {v : Value} {zs : List Int} (h : OwnZ B E k w v zs) (hn : 0 < zs.length) : ∃ g c, v = .slice (some ⟨g, 0, none⟩) zs.length c ∧ B ≤ g ∧ g < w.heap.size := by
  rcases h.2 with ⟨_, e⟩ | ⟨g, cap, _, hv, hg, hh, _⟩
  · omega
  · exact ⟨g, cap, hv, hg, (Array.getElem?_eq_some_iff.1 hh).1⟩
theorem OwnZ.far {F : Nat → Prop} {B : Nat} {E : TypeId} {k : IntKind} {w w' : World} {v : Value} {zs : List Int} (h : OwnZ B E k w v zs) (g : Far F w w') (hF : ∀ b, v.ownBlock = some b → ¬ F b) : OwnZ B E k w' v zs := by
  obtain ⟨h1, h2⟩ := h
  refine ⟨h1, ?_⟩
  rcases h2 with h2 | ⟨b, cap, cur, e, hb, hh, r⟩
  · exact .inl h2
  · exact .inr ⟨b, cap, cur, e, hb, (g.block b (Array.getElem?_eq_some_iff.1 hh).1 (hF b (by rw [e]; rfl))).trans hh, r⟩
end
end Go.Proofs.Ytkijonnbngnliaa

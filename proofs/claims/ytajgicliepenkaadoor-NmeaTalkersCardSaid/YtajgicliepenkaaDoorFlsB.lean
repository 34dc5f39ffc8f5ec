/-
  Rows of texts: a call's own, appended to one by one, and written over.
-/
import Derived.Test.YtajgicliepenkaaDoorRowK
namespace Go.Proofs.YtajgicliepenkaaDoor
open Go.RowKit
set_option linter.unusedVariables false

/-- A slice of texts that begins at a block's head. -/
def RowS (w : World) (v : Value) (ps : List ByteArray) : Prop := ∃ b c, v = .slice (some ⟨b, 0, none⟩) ps.length c ∧ ps.length ≤ c ∧ b < w.heap.size ∧ ∀ (j : Nat) x, ps[j]? = some x → w.cell? ⟨b, j, none⟩ = some (.string x)
theorem RowS.grew {w w' : World} {v : Value} {ps : List ByteArray} (h : RowS w v ps) (g : Grew w w') : RowS w' v ps := by
  obtain ⟨b, c, e, hc, hb, hcell⟩ := h
  exact ⟨b, c, e, hc, Nat.lt_of_lt_of_le hb g.size, fun j x hj => (g.cell hb).trans (hcell j x hj)⟩
/-- A row of texts of the call's own, from block B on. -/
def OwnS (B : Nat) (E : TypeId) (w : World) (v : Value) (ps : List ByteArray) : Prop := w.ownsRow B E 1 v ps.length (ps.map Value.string)
theorem OwnS.alloc {B : Nat} {E : TypeId} {w : World} {v : Value} {ps : List ByteArray} (h : OwnS B E w v ps) (o : Obj) : OwnS B E (w.alloc o) v ps := World.ownsRow.alloc h o
theorem OwnS.drew {B : Nat} {E : TypeId} {w : World} {v : Value} {ps : List ByteArray} (h : OwnS B E w v ps) : OwnS B E w.drew v ps := World.ownsRow.drew h
theorem OwnS.drewN {B : Nat} {E : TypeId} {w : World} {v : Value} {ps : List ByteArray} (h : OwnS B E w v ps) (n : Nat) : OwnS B E (w.drewN n) v ps := h
theorem OwnS.form {w : World} {B : Nat} {E : TypeId} {v : Value} {ps : List ByteArray} (h : OwnS B E w v ps) (hn : 0 < ps.length) : ∃ g c, v = .slice (some ⟨g, 0, none⟩) ps.length c ∧ B ≤ g ∧ g < w.heap.size := by
  rcases h.2 with ⟨_, h0⟩ | ⟨g, cap, _, hv, hg, hh, _⟩
  · omega
  · exact ⟨g, cap, hv, hg, (Array.getElem?_eq_some_iff.1 hh).1⟩
theorem OwnS.row {w : World} {B : Nat} {E : TypeId} {v : Value} {ps : List ByteArray} (h : OwnS B E w v ps) (hn : 0 < ps.length) : RowS w v ps := by
  have h' := h
  rcases h.2 with ⟨_, h0⟩ | ⟨g, cap, cur, hv, hg, hh, hc, _⟩
  · omega
  · refine ⟨g, cap, hv, hc, (Array.getElem?_eq_some_iff.1 hh).1, fun j x hj => ?_⟩
    have := World.ownsRow.cells h' (g := g) (by rw [hv]; rfl) j (.string x) (by rw [List.getElem?_map, hj]; rfl)
    rwa [show (⟨g, 0, none⟩ : Addr).add j = ⟨g, j, none⟩ by unfold Addr.add; split <;> simp_all] at this
theorem OwnS.at_ {w : World} {B : Nat} {E : TypeId} {g n c : Nat} {ps : List ByteArray} (h : OwnS B E w (.slice (some ⟨g, 0, none⟩) n c) ps) (j : Nat) (hj : j < ps.length) : w.cell? ⟨g, j, none⟩ = some (.string (ps.getD j ⟨#[]⟩)) := by
  have := World.ownsRow.cells h (g := g) rfl j (.string (ps.getD j ⟨#[]⟩)) (by rw [List.getElem?_map, List.getElem?_eq_getElem hj, List.getD_eq_getElem?_getD, List.getElem?_eq_getElem hj]; rfl)
  rwa [show (⟨g, 0, none⟩ : Addr).add j = ⟨g, j, none⟩ by unfold Addr.add; split <;> simp_all] at this
theorem OwnS.frozen {w : World} {B : Nat} {E : TypeId} {g n c : Nat} {ps : List ByteArray} (h : OwnS B E w (.slice (some ⟨g, 0, none⟩) n c) ps) (j : Nat) : w.frozen? ⟨g, j, none⟩ = false := by
  rcases h.2 with ⟨h', _⟩ | ⟨g', cap', cur, h', _, hh, _⟩
  · simp at h'
  · simp only [Value.slice.injEq, Option.some.injEq, Addr.mk.injEq] at h'
    obtain ⟨⟨rfl, _⟩, _⟩ := h'
    simp [World.frozen?, hh]
/-- A text of the row is written over. -/
theorem OwnS.set {w : World} {B : Nat} {E : TypeId} {g c n : Nat} {ps : List ByteArray} (h : OwnS B E w (.slice (some ⟨g, 0, none⟩) n c) ps) (j : Nat) (x : ByteArray) (hj : j < ps.length) :
    OwnS B E (w.setCell ⟨g, j, none⟩ (.string x)) (.slice (some ⟨g, 0, none⟩) n c) (ps.set j x) := by
  unfold OwnS at h ⊢
  rw [List.length_set]
  have hn : n = ps.length := by
    rcases h.2 with ⟨h', _⟩ | ⟨g', cap', cur, h', _⟩
    · simp at h'
    · simp only [Value.slice.injEq] at h'; exact h'.2.1
  subst hn
  have := (World.ownsRow.stored h j (.string x)).1
  rwa [show (ps.map Value.string).set j (.string x) = (ps.set j x).map Value.string by rw [List.map_set]] at this
theorem OwnS.one (w : World) (E : TypeId) (B : Nat) (hB : B ≤ w.heap.size) (x : ByteArray) : OwnS B E (w.alloc (.cells #[.string x] E)) (.slice (some ⟨w.heap.size, 0, none⟩) 1 1) [x] :=
  ⟨rfl, .inr ⟨_, 1, _, rfl, hB, heap_alloc_new w _, Nat.le_refl _, by decide, rfl, rfl⟩⟩
theorem Grew.pushS {w0 w w' : World} {E : TypeId} {v : Value} {ps : List ByteArray} (g : Grew w0 w) (h : OwnS w0.heap.size E w v ps) (hg : w.grownBy w' v.ownBlock) : Grew w0 w' :=
  Below.grown g hg g.size (fun b hb => (World.ownsRow.lt h b hb).1)

section
variable {P : Program} (w : World)
/-- 'append(out, x)' of one text, the row the call's own. -/
theorem wpList_pushS {ops : Array Oper} {rest : List Oper} {o : Oper} {a : Act} {Q : Exit → Act → World → Prop} (hgd : o.guard = none) (s x : Operand) (t : TypeId)
    (ho : o.op = .call { callee := .builtin .append, args := #[s, x], argTypes := #[t, t] })
    (base : Nat) (E : TypeId) (ht : P.underlying t = some (.slice E)) (hi : (P.info? E).map (fun i => (i.zero, i.size, i.bytes)) = some (some (.string ByteArray.empty), 1, 16))
    (v : Value) (ps : List ByteArray) (hs : a.eval s = v) (hown : OwnS base E w v ps)
    (ad : Addr) (p : ByteArray) (hx : a.eval x = .slice (some ad) 1 1) (hc : w.cell? ad = some (.string p))
    (hlen : (ps.length + 1) * 16 ≤ 140737488355328) (hbase : base ≤ w.heap.size)
    (h : ∀ v' w', OwnS base E w' v' (ps ++ [p]) → w.grownBy w' v.ownBlock → wpList P ops Q rest (a.put o.dst v') w') : wpList P ops Q (o :: rest) a w := by
  obtain ⟨i, hi0, hz0, hz1, hz2⟩ := info_parts hi
  refine wpList_append_own w hgd s x t ho base E i (.string ByteArray.empty) 1 16 ht hi0 hz0 hz1 hz2 rfl (by decide) v ps.length (ps.map Value.string) hs hown ad 1 1 [.string p] hx rfl ?_ ?_ ?_ hlen hbase ?_
  · intro j u hj
    match j, hj with
    | 0, hj => simp at hj; subst hj; simpa [Addr.add] using hc
  · intro u hu; simp at hu; subst hu; rfl
  · unfold maxLen; omega
  · intro v' w' h1 h2 _
    refine h v' w' ?_ h2
    unfold OwnS
    simpa using h1
end
end Go.Proofs.YtajgicliepenkaaDoor

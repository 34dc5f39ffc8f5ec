/-
  Rows of numbers that a call makes: appended to one by one.
-/
import Derived.Test.YtkijonnbngnliaaRefA
namespace Go.Proofs.Ytkijonnbngnliaa
open Go.RowKit
set_option linter.unusedVariables false

/-- The numbers as cells. -/
def cellsOf (k : IntKind) (ns : List Nat) : List Value := ns.map fun n => Value.int k (n : Nat)
/-- A row of numbers of the call's own, from block B on. -/
def Own (B : Nat) (E : TypeId) (k : IntKind) (w : World) (v : Value) (ns : List Nat) : Prop := w.ownsRow B E 1 v ns.length (cellsOf k ns)

theorem Own.nil (B : Nat) (E : TypeId) (k : IntKind) (w : World) : Own B E k w (.slice none 0 0) [] := World.ownsRow_nil _ _ _ _
theorem Own.alloc {B : Nat} {E : TypeId} {k : IntKind} {w : World} {v : Value} {ns : List Nat} (h : Own B E k w v ns) (o : Obj) : Own B E k (w.alloc o) v ns := World.ownsRow.alloc h o
theorem Own.drew {B : Nat} {E : TypeId} {k : IntKind} {w : World} {v : Value} {ns : List Nat} (h : Own B E k w v ns) : Own B E k w.drew v ns := World.ownsRow.drew h
theorem Own.drewN {B : Nat} {E : TypeId} {k : IntKind} {w : World} {v : Value} {ns : List Nat} (h : Own B E k w v ns) (n : Nat) : Own B E k (w.drewN n) v ns := h
theorem Own.grew {B : Nat} {E : TypeId} {k : IntKind} {w w' : World} {v : Value} {ns : List Nat} (h : Own B E k w v ns) (g : Grew w w') : Own B E k w' v ns := by
  obtain ⟨h1, h2⟩ := h
  refine ⟨h1, ?_⟩
  rcases h2 with h2 | ⟨b, cap, cur, e, hb, hh, r⟩
  · exact .inl h2
  · refine .inr ⟨b, cap, cur, e, hb, ?_, r⟩
    have hlt : b < w.heap.size := by
      rcases Nat.lt_or_ge b w.heap.size with h | h
      · exact h
      · rw [Array.getElem?_eq_none h] at hh; cases hh
    rw [Below.block g b hlt]; exact hh
theorem Own.row {B : Nat} {E : TypeId} {k : IntKind} {w : World} {v : Value} {ns : List Nat} (h : Own B E k w v ns) : Row k w v ns := by
  have h' := h
  obtain ⟨h1, h2⟩ := h
  rcases h2 with ⟨rfl, h2⟩ | ⟨b, cap, cur, rfl, hb, hh, hn, r⟩
  · exact ⟨none, 0, by rw [h2], by omega, fun h => by omega⟩
  · refine ⟨_, cap, rfl, hn, fun hp => ⟨b, 0, rfl, ?_, fun i hi => ?_⟩⟩
    · rcases Nat.lt_or_ge b w.heap.size with h | h
      · exact h
      · rw [Array.getElem?_eq_none h] at hh; cases hh
    · rw [Nat.zero_add, World.ownsRow.cellAt h' i (by omega)]
      simp [cellsOf, hi, wd_lt hi]
theorem Grew.push {w0 w w' : World} {E : TypeId} {k : IntKind} {v : Value} {ns : List Nat} (g : Grew w0 w) (h : Own w0.heap.size E k w v ns) (hg : w.grownBy w' v.ownBlock) : Grew w0 w' :=
  Below.grown g hg g.size (fun b hb => (World.ownsRow.lt h b hb).1)

theorem cell_new (w : World) (v : Value) (E : TypeId) : (w.alloc (.cells #[v] E)).cell? ⟨w.heap.size, 0, none⟩ = some v := by simp
theorem size_new (w : World) (o : Obj) : w.heap.size ≤ (w.alloc o).heap.size := by simp

section
variable {P : Program} (w : World)
/-- 'append(out, x)' of one number, the row the call's own. -/
theorem wpList_push {ops : Array Oper} {rest : List Oper} {o : Oper} {a : Act} {Q : Exit → Act → World → Prop} (hgd : o.guard = none) (s x : Operand) (t : TypeId)
    (ho : o.op = .call { callee := .builtin .append, args := #[s, x], argTypes := #[t, t] })
    (base : Nat) (E : TypeId) (k : IntKind) (bytes : Nat) (ht : P.underlying t = some (.slice E)) (hi : (P.info? E).map (fun i => (i.zero, i.size, i.bytes)) = some (some (.int k 0), 1, bytes))
    (v : Value) (ns : List Nat) (hs : a.eval s = v) (hown : Own base E k w v ns)
    (ad : Addr) (n : Nat) (hx : a.eval x = .slice (some ad) 1 1) (hc : w.cell? ad = some (.int k (n : Nat)))
    (hlen : (ns.length + 1) * bytes ≤ 140737488355328) (hb : 0 < bytes) (hbase : base ≤ w.heap.size)
    (h : ∀ v' w', Own base E k w' v' (ns ++ [n]) → w.grownBy w' v.ownBlock → wpList P ops Q rest (a.put o.dst v') w') : wpList P ops Q (o :: rest) a w := by
  obtain ⟨i, hi0, hz0, hz1, hz2⟩ := info_parts hi
  refine wpList_append_own w hgd s x t ho base E i (.int k 0) 1 bytes ht hi0 hz0 hz1 hz2 rfl (by decide) v ns.length (cellsOf k ns) hs hown ad 1 1 [.int k (n : Nat)] hx rfl ?_ ?_ ?_ hlen hbase ?_
  · intro j u hj
    match j, hj with
    | 0, hj => simp at hj; subst hj; simpa [Addr.add] using hc
  · intro u hu; simp at hu; subst hu; rfl
  · have := Nat.le_mul_of_pos_right (ns.length + 1) hb
    unfold maxLen; omega
  · intro v' w' h1 h2 _
    refine h v' w' ?_ h2
    unfold Own cellsOf
    simpa [cellsOf] using h1
end

end Go.Proofs.Ytkijonnbngnliaa

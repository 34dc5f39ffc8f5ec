/-
  Rows of integers: one behind another; arguments.
-/
import Derived.Test.YtkijonnbngnliaaRowZ
namespace Go.Proofs.Ytkijonnbngnliaa
open Go.RowKit
set_option linter.unusedVariables false

theorem RowZ.of {w : World} {x : Addr} {len cap : Nat} {zs : List Int} (hl : len ≤ cap) (hz : zs.length = cap) (hcell : ∀ i, i < zs.length → w.cell? (x.add i) = some (.int .i64 (zs.getD i 0))) : RowZ .i64 w (.slice (some x) (zs.take len).length cap) (zs.take len) := by
  have hlen : (zs.take len).length = len := by simp; omega
  refine ⟨some x, cap, rfl, by omega, fun hp => ?_⟩
  rw [hlen] at hp
  have hc0 := hcell 0 (by omega)
  obtain ⟨b, o, spot⟩ := x
  have hs : spot = none := by simpa [Addr.add] using World.cell?_spot hc0
  subst hs
  refine ⟨b, o, rfl, World.block_lt_of_cell? w ⟨b, o, none⟩ (by simpa [Addr.add] using hc0), fun i hi => ?_⟩
  rw [hlen] at hi
  have := hcell i (by omega)
  rw [show (⟨b, o, none⟩ : Addr).add i = ⟨b, o + i, none⟩ by unfold Addr.add; split <;> simp_all] at this
  rw [this]
  unfold zi
  rw [List.getD_eq_getElem?_getD, List.getD_eq_getElem?_getD, List.getElem?_take, if_pos hi]
theorem RowZ.far2 {F : Nat → Prop} {k : IntKind} {w w' : World} {v : Value} {zs : List Int} (h : RowZ k w v zs) (g : Far F w w') (hF : 0 < zs.length → ∀ b, v.ownBlock = some b → ¬ F b) : RowZ k w' v zs := by
  obtain ⟨A, c, rfl, hc, hr⟩ := h
  refine ⟨A, c, rfl, hc, fun hn => ?_⟩
  obtain ⟨b, o, rfl, hb, hcell⟩ := hr hn
  exact ⟨b, o, rfl, Nat.lt_of_lt_of_le hb g.size, fun i hi => (g.cell (p := ⟨b, o + i, none⟩) hb (hF hn b rfl)).trans (hcell i hi)⟩
section
variable {P : Program} (w : World)
/-- 'append(out, in...)' of integers, the row the call's own. -/
theorem wpList_joinZ {ops : Array Oper} {rest : List Oper} {o : Oper} {a : Act} {Q : Exit → Act → World → Prop} (hgd : o.guard = none) (s x : Operand) (t : TypeId)
    (ho : o.op = .call { callee := .builtin .append, args := #[s, x], argTypes := #[t, t] })
    (base : Nat) (E : TypeId) (k : IntKind) (bytes : Nat) (ht : P.underlying t = some (.slice E)) (hi : (P.info? E).map (fun i => (i.zero, i.size, i.bytes)) = some (some (.int k 0), 1, bytes))
    (v : Value) (ns : List Int) (hs : a.eval s = v) (hown : OwnZ base E k w v ns)
    (u : Value) (ms : List Int) (hx : a.eval x = u) (hrow : RowZ k w u ms)
    (hlen : (ns.length + ms.length) * bytes ≤ 140737488355328) (hb : 0 < bytes) (hbase : base ≤ w.heap.size)
    (h : ∀ v' w', OwnZ base E k w' v' (ns ++ ms) → w.grownBy w' v.ownBlock → wpList P ops Q rest (a.put o.dst v') w') : wpList P ops Q (o :: rest) a w := by
  refine wpList_plain hgd fun K hK => ?_
  obtain ⟨i, hi0, hz0, hz1, hz2⟩ := info_parts hi
  obtain ⟨A, c, rfl, hc, hr⟩ := hrow
  have hmax : ns.length + ms.length ≤ maxLen := by
    have := Nat.le_mul_of_pos_right (ns.length + ms.length) hb
    unfold maxLen; omega
  have he : ∀ v' w', w'.ownsRow base E 1 v' (ns.length + ms.length) (cellsZ k ns ++ cellsZ k ms) → OwnZ base E k w' v' (ns ++ ms) := fun v' w' h1 => by
    unfold OwnZ
    simpa [cellsZ] using h1
  rcases A with _ | ad
  · have h0 : ms = [] := by
      rcases Nat.eq_zero_or_pos ms.length with h | h
      · exact List.eq_nil_of_length_eq_zero h
      · obtain ⟨b, o, e, _⟩ := hr h; cases e
    subst h0
    have hrun := run_join_nil (P := P) w base t o.type E i 1 ht hi0 v ns.length (cellsZ k ns) hown c
    unfold Oper.wp
    have hx' : a.eval x = .slice none 0 c := hx
    simp [execOp, ho, resolve, invoke, builtin, hs, hx', hrun, Result.andThen]
    exact hK _ _ (h v w (by rw [List.append_nil]; exact hown) (World.grownBy.refl w _))
  · refine wp_append_own w s x t ho base E i (.int k 0) 1 bytes ht hi0 hz0 hz1 hz2 rfl (by decide) v ns.length (cellsZ k ns) hs hown ad ms.length c (cellsZ k ms) hx (by simp [cellsZ]) ?_ ?_ hmax hlen hbase (fun v' w' h1 h2 h3 => hK _ _ (h v' w' (he v' w' h1) h2))
    · intro j z hj
      have hj' : j < ms.length := by have := (List.getElem?_eq_some_iff.1 hj).1; simpa [cellsZ] using this
      obtain ⟨b, o, e, hbl, hcell⟩ := hr (by omega)
      cases e
      rw [show (⟨b, o, none⟩ : Addr).add j = ⟨b, o + j, none⟩ by unfold Addr.add; split <;> simp_all, hcell j hj', ← hj]
      simp [cellsZ, zi, hj']
    · intro z hz
      simp only [cellsZ, List.mem_map] at hz
      obtain ⟨n, _, rfl⟩ := hz
      rfl
end
theorem own_litZ {B : Nat} (w : World) (k : IntKind) (E : TypeId) (hB : B ≤ w.heap.size) : OwnZ B E k (w.alloc (.cells #[] E)) (.slice (some ⟨w.heap.size, 0, none⟩) 0 0) [] :=
  ⟨by simp [cellsZ], .inr ⟨_, 0, _, rfl, hB, heap_alloc_new w _, Nat.le_refl _, Nat.zero_le _, by simp, by simp [cellsZ]⟩⟩
theorem Grew.pushY {w0 w w' : World} {B : Nat} {E : TypeId} {k : IntKind} {v : Value} {ns : List Int} (g : Grew w0 w) (h : OwnZ B E k w v ns) (hB : w0.heap.size ≤ B) (hg : w.grownBy w' v.ownBlock) : Grew w0 w' :=
  Below.grown g hg g.size (fun b hb => Nat.le_trans hB (World.ownsRow.lt h b hb).1)
/-- A number of the row is written over. -/
theorem OwnZ.setJ {w : World} {B : Nat} {E : TypeId} {k : IntKind} {g c n : Nat} {zs : List Int} (h : OwnZ B E k w (.slice (some ⟨g, 0, none⟩) n c) zs) (j : Nat) (x : Int) (hj : j < zs.length) :
    OwnZ B E k (w.setCell ⟨g, j, none⟩ (.int k x)) (.slice (some ⟨g, 0, none⟩) n c) (zs.set j x) := by
  unfold OwnZ at h ⊢
  rw [List.length_set]
  have hn : n = zs.length := by
    rcases h.2 with ⟨h', _⟩ | ⟨g', cap', cur, h', _⟩
    · simp at h'
    · simp only [Value.slice.injEq] at h'; exact h'.2.1
  subst hn
  have := (World.ownsRow.stored h j (.int k x)).1
  rwa [show (cellsZ k zs).set j (.int k x) = cellsZ k (zs.set j x) by simp [cellsZ, List.map_set]] at this
theorem OwnZ.cellJ {w : World} {B : Nat} {E : TypeId} {k : IntKind} {g c n : Nat} {zs : List Int} (h : OwnZ B E k w (.slice (some ⟨g, 0, none⟩) n c) zs) (hn : n = zs.length) (j : Nat) (hj : j < zs.length) : w.cell? ⟨g, j, none⟩ = some (.int k (zi zs j)) ∧ w.frozen? ⟨g, j, none⟩ = false := by
  subst hn
  unfold OwnZ at h
  refine ⟨?_, World.ownsRow.frozenAt h j⟩
  rw [World.ownsRow.cellAt h j (by omega)]
  simp [cellsZ, zi, hj]
end Go.Proofs.Ytkijonnbngnliaa

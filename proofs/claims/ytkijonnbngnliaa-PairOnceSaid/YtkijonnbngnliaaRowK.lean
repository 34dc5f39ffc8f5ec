/-
  Rows of numbers: a row appended to a row of the call's own; a row of bytes as a text; a row that a literal lays.
-/
import Derived.Test.YtkijonnbngnliaaOwn
import Derived.Laws.BytesArg
import Derived.Laws.AppendOwn
import Derived.Laws.AppendOwnNone
import Derived.OpenShut
import Derived.Deep.RegionLaw
namespace Go.Proofs.Ytkijonnbngnliaa
open Go.RowKit
set_option linter.unusedVariables false

/-- Bytes as a text. -/
def strOf (ns : List Nat) : ByteArray := strOfNums (ns.map fun (n : Nat) => (n : Int))

section
variable {P : Program} (w : World)
theorem Row.string {v : Value} {ns : List Nat} (h : Row .u8 w v ns) (src e : TypeId) (hs : P.underlying src = some (.slice e)) (he : P.underlying e = some (.int .u8)) (dst : TypeId) (hd : P.underlying dst = some .string) :
    (convert src dst v).run P w = .ok (.string (strOf ns)) w := by
  obtain ⟨A, c, rfl, hc, hr⟩ := h
  by_cases hp : 0 < ns.length
  · obtain ⟨b, o, rfl, hb, hcell⟩ := hr hp
    refine run_convert_bytes_arg w src e hs he b o ns.length c (ns.map fun (n : Nat) => (n : Int)) (by simp) (fun i hi => ?_) dst hd
    rw [hcell i hi]
    simp [wd, hi]
  · obtain rfl : ns = [] := List.eq_nil_of_length_eq_zero (by omega)
    rcases A with _ | ad
    · have := run_convert_bytes_nil w src e hs he 0 c dst hd
      exact this
    · rw [run_convert_bytes_string w src dst e _ _ c hs he hd]
      exact run_bytesToString w ad 0 c [] (by simp [loadCells, loadCellsFrom])

theorem run_join_nil (base : Nat) (t ty E : TypeId) (i : TypeInfo) (size : Nat) (ht : P.underlying t = some (.slice E)) (hi : P.info? E = some i) (v : Value) (n : Nat) (xs : List Value)
    (hown : w.ownsRow base E size v n xs) (c : Nat) : (Builtin.append_ #[t, t] ty #[v, .slice none 0 c]).run P w = .ok v w := by
  rcases hown.2 with ⟨rfl, rfl⟩ | ⟨g, cap, cur, rfl, _, _, hnc, _⟩
  · simp [Builtin.append_, run_underlying ht, sizeOf, typeInfo, hi, Builtin.lenOf, Builtin.firstCells]
  · simp [Builtin.append_, run_underlying ht, sizeOf, typeInfo, hi, Builtin.lenOf, Builtin.firstCells, hnc, storeCells]
/-- 'append(out, xs...)', out the call's own, xs any row. -/
theorem wp_joinN {o : Oper} {a : Act} {K : Act → World → Prop} {Q : Exit → Act → World → Prop} (s x : Operand) (t : TypeId)
    (ho : o.op = .call { callee := .builtin .append, args := #[s, x], argTypes := #[t, t] })
    (base : Nat) (E : TypeId) (k : IntKind) (bytes : Nat) (ht : P.underlying t = some (.slice E)) (hi : (P.info? E).map (fun i => (i.zero, i.size, i.bytes)) = some (some (.int k 0), 1, bytes))
    (v : Value) (ns : List Nat) (hs : a.eval s = v) (hown : Own base E k w v ns)
    (u : Value) (ms : List Nat) (hx : a.eval x = u) (hrow : Row k w u ms)
    (hlen : (ns.length + ms.length) * bytes ≤ 140737488355328) (hb : 0 < bytes) (hbase : base ≤ w.heap.size)
    (h : ∀ v' w', Own base E k w' v' (ns ++ ms) → w.grownBy w' v.ownBlock → (v ≠ .slice none 0 0 → v' ≠ .slice none 0 0) → K (a.put o.dst v') w') : o.wp P a w K Q := by
  obtain ⟨i, hi0, hz0, hz1, hz2⟩ := info_parts hi
  obtain ⟨A, c, rfl, hc, hr⟩ := hrow
  have hmax : ns.length + ms.length ≤ maxLen := by
    have := Nat.le_mul_of_pos_right (ns.length + ms.length) hb
    unfold maxLen; omega
  have he : ∀ v' w', w'.ownsRow base E 1 v' (ns.length + ms.length) (cellsOf k ns ++ cellsOf k ms) → Own base E k w' v' (ns ++ ms) := fun v' w' h1 => by
    unfold Own
    simpa [cellsOf] using h1
  rcases A with _ | ad
  · have h0 : ms = [] := by
      rcases Nat.eq_zero_or_pos ms.length with h | h
      · exact List.eq_nil_of_length_eq_zero h
      · obtain ⟨b, o, e, _⟩ := hr h; cases e
    subst h0
    have hrun := run_join_nil (P := P) w base t o.type E i 1 ht hi0 v ns.length (cellsOf k ns) hown c
    unfold Oper.wp
    have hx' : a.eval x = .slice none 0 c := hx
    simp [execOp, ho, resolve, invoke, builtin, hs, hx', hrun, Result.andThen]
    exact (h v w (by rw [List.append_nil]; exact hown) (World.grownBy.refl w _) (fun h => h))
  · refine wp_append_own w s x t ho base E i (.int k 0) 1 bytes ht hi0 hz0 hz1 hz2 rfl (by decide) v ns.length (cellsOf k ns) hs hown ad ms.length c (cellsOf k ms) hx (by simp [cellsOf]) ?_ ?_ hmax hlen hbase (fun v' w' h1 h2 h3 => h v' w' (he v' w' h1) h2 (fun hn e => hn (h3.1 e).1))
    · intro j z hj
      have hj' : j < ms.length := by have := (List.getElem?_eq_some_iff.1 hj).1; simpa [cellsOf] using this
      obtain ⟨b, o, e, hbl, hcell⟩ := hr (by omega)
      cases e
      rw [show (⟨b, o, none⟩ : Addr).add j = ⟨b, o + j, none⟩ by unfold Addr.add; split <;> simp_all, hcell j hj', ← hj]
      simp [cellsOf, wd, hj']
    · intro z hz
      simp only [cellsOf, List.mem_map] at hz
      obtain ⟨n, _, rfl⟩ := hz
      rfl
theorem wpList_joinN {ops : Array Oper} {rest : List Oper} {o : Oper} {a : Act} {Q : Exit → Act → World → Prop} (hgd : o.guard = none) (s x : Operand) (t : TypeId)
    (ho : o.op = .call { callee := .builtin .append, args := #[s, x], argTypes := #[t, t] })
    (base : Nat) (E : TypeId) (k : IntKind) (bytes : Nat) (ht : P.underlying t = some (.slice E)) (hi : (P.info? E).map (fun i => (i.zero, i.size, i.bytes)) = some (some (.int k 0), 1, bytes))
    (v : Value) (ns : List Nat) (hs : a.eval s = v) (hown : Own base E k w v ns)
    (u : Value) (ms : List Nat) (hx : a.eval x = u) (hrow : Row k w u ms)
    (hlen : (ns.length + ms.length) * bytes ≤ 140737488355328) (hb : 0 < bytes) (hbase : base ≤ w.heap.size)
    (h : ∀ v' w', Own base E k w' v' (ns ++ ms) → w.grownBy w' v.ownBlock → (v ≠ .slice none 0 0 → v' ≠ .slice none 0 0) → wpList P ops Q rest (a.put o.dst v') w') : wpList P ops Q (o :: rest) a w :=
  wpList_plain hgd fun _ hK => wp_joinN w s x t ho base E k bytes ht hi v ns hs hown u ms hx hrow hlen hb hbase fun v' w' h1 h2 h3 => hK _ _ (h v' w' h1 h2 h3)
/-- The same as one step of a region that draws. -/
theorem step_joinN {ops : Array Oper} {o : Oper} {a : Act} {K : Act → World → Prop} {Q : Exit → Act → World → Prop} {X : Prop} (hgd : o.guard = none) (s x : Operand) (t : TypeId)
    (ho : o.op = .call { callee := .builtin .append, args := #[s, x], argTypes := #[t, t] })
    (base : Nat) (E : TypeId) (k : IntKind) (bytes : Nat) (ht : P.underlying t = some (.slice E)) (hi : (P.info? E).map (fun i => (i.zero, i.size, i.bytes)) = some (some (.int k 0), 1, bytes))
    (v : Value) (ns : List Nat) (hs : a.eval s = v) (hown : Own base E k w v ns)
    (u : Value) (ms : List Nat) (hx : a.eval x = u) (hrow : Row k w u ms)
    (hlen : (ns.length + ms.length) * bytes ≤ 140737488355328) (hb : 0 < bytes) (hbase : base ≤ w.heap.size)
    (h : ∀ v' w', Own base E k w' v' (ns ++ ms) → w.grownBy w' v.ownBlock → (v ≠ .slice none 0 0 → v' ≠ .slice none 0 0) → K (a.put o.dst v') w') : if Region.wanted o (yielded ops a.tmps) = true then Oper.wp P o a w K Q else X := by
  rw [if_pos (by simp [Region.wanted, hgd])]
  exact wp_joinN w s x t ho base E k bytes ht hi v ns hs hown u ms hx hrow hlen hb hbase h
theorem wpList_join {ops : Array Oper} {rest : List Oper} {o : Oper} {a : Act} {Q : Exit → Act → World → Prop} (hgd : o.guard = none) (s x : Operand) (t : TypeId)
    (ho : o.op = .call { callee := .builtin .append, args := #[s, x], argTypes := #[t, t] })
    (base : Nat) (E : TypeId) (k : IntKind) (bytes : Nat) (ht : P.underlying t = some (.slice E)) (hi : (P.info? E).map (fun i => (i.zero, i.size, i.bytes)) = some (some (.int k 0), 1, bytes))
    (v : Value) (ns : List Nat) (hs : a.eval s = v) (hown : Own base E k w v ns)
    (u : Value) (ms : List Nat) (hx : a.eval x = u) (hrow : Row k w u ms)
    (hlen : (ns.length + ms.length) * bytes ≤ 140737488355328) (hb : 0 < bytes) (hbase : base ≤ w.heap.size)
    (h : ∀ v' w', Own base E k w' v' (ns ++ ms) → w.grownBy w' v.ownBlock → wpList P ops Q rest (a.put o.dst v') w') : wpList P ops Q (o :: rest) a w :=
  wpList_joinN w hgd s x t ho base E k bytes ht hi v ns hs hown u ms hx hrow hlen hb hbase fun v' w' h1 h2 _ => h v' w' h1 h2
end
/-- An own row that is not nil begins at its block's head. -/
theorem Own.head {w : World} {B : Nat} {E : TypeId} {k : IntKind} {v : Value} {ns : List Nat} (h : Own B E k w v ns) (hn : v ≠ .slice none 0 0) : ∃ g c, v = .slice (some ⟨g, 0, none⟩) ns.length c ∧ B ≤ g ∧ g < w.heap.size ∧ ns.length ≤ c := by
  rcases h.2 with ⟨e, _⟩ | ⟨g, cap, _, hv, hg, hh, hc, _⟩
  · exact absurd e hn
  · exact ⟨g, cap, hv, hg, (Array.getElem?_eq_some_iff.1 hh).1, hc⟩
/-- The row from its j-th number on: where the whole room is gone the address stays. -/
theorem Row.cut {k : IntKind} {w : World} {b o n c : Nat} {ns : List Nat} (h : Row k w (.slice (some ⟨b, o, none⟩) n c) ns) (j : Nat) (hj : j ≤ ns.length) :
    Row k w (.slice (some (if c = j then ⟨b, o, none⟩ else ⟨b, o + j, none⟩)) (n - j) (c - j)) (ns.drop j) := by
  obtain ⟨A, c', e, hc, hr⟩ := h
  simp only [Value.slice.injEq] at e
  obtain ⟨rfl, rfl, rfl⟩ := e
  refine ⟨_, _, by rw [List.length_drop], by rw [List.length_drop]; omega, fun hp => ?_⟩
  rw [List.length_drop] at hp
  obtain ⟨b', o', e, hb, hcell⟩ := hr (by omega)
  cases e
  rw [if_neg (by omega)]
  refine ⟨b, o + j, rfl, hb, fun i hi => ?_⟩
  rw [List.length_drop] at hi
  rw [show o + j + i = o + (j + i) by omega, hcell (j + i) (by omega)]
  unfold wd
  rw [List.getD_eq_getElem?_getD, List.getD_eq_getElem?_getD, List.getElem?_drop]
/-- A row at the head of a block that is there. -/
theorem Row.of_block {w : World} {k : IntKind} {g : Nat} {cs : Array Value} {E : TypeId} {fr : Nat × Nat} {ns : List Nat} (h : w.heap[g]? = some (.cells cs E fr)) (hc : ∀ i, i < ns.length → cs[i]? = some (.int k (wd ns i : Nat))) (c : Nat) (hl : ns.length ≤ c) :
    Row k w (.slice (some ⟨g, 0, none⟩) ns.length c) ns :=
  ⟨_, c, rfl, hl, fun _ => ⟨g, 0, rfl, (Array.getElem?_eq_some_iff.1 h).1, fun i hi => by rw [cell_of_row w g (0 + i) cs E fr h, Nat.zero_add]; exact hc i hi⟩⟩
/-- The same of any address: where room is left it moves on. -/
theorem Row.cutO {k : IntKind} {w : World} {A : Option Addr} {n c : Nat} {ns : List Nat} (h : Row k w (.slice A n c) ns) (j : Nat) (hj : j ≤ ns.length) (hne : c ≠ j) :
    Row k w (.slice (A.map fun x => x.add j) (n - j) (c - j)) (ns.drop j) := by
  obtain ⟨A', c', e, hc, hr⟩ := h
  simp only [Value.slice.injEq] at e
  obtain ⟨rfl, rfl, rfl⟩ := e
  refine ⟨_, _, by rw [List.length_drop], by rw [List.length_drop]; omega, fun hp => ?_⟩
  rw [List.length_drop] at hp
  obtain ⟨b, o, rfl, hb, hcell⟩ := hr (by omega)
  refine ⟨b, o + j, by simp [Addr.add], hb, fun i hi => ?_⟩
  rw [List.length_drop] at hi
  rw [show o + j + i = o + (j + i) by omega, hcell (j + i) (by omega)]
  unfold wd
  rw [List.getD_eq_getElem?_getD, List.getD_eq_getElem?_getD, List.getElem?_drop]
theorem Row.cutE {k : IntKind} {w : World} {A : Option Addr} {n c : Nat} {ns : List Nat} (h : Row k w (.slice A n c) ns) (j : Nat) (hj : j ≤ ns.length) (he : c = j) :
    Row k w (.slice A (n - j) (c - j)) (ns.drop j) := by
  obtain ⟨A', c', e, hc, hr⟩ := h
  simp only [Value.slice.injEq] at e
  obtain ⟨rfl, rfl, rfl⟩ := e
  exact ⟨_, _, by rw [List.length_drop], by rw [List.length_drop]; omega, fun hp => by rw [List.length_drop] at hp; omega⟩
theorem infoU8 : (Try.prog.info? 5).map (fun i => (i.zero, i.size, i.bytes)) = some (some (.int .u8 0), 1, 1) := by kernel_rfl
theorem Own.form {w : World} {B : Nat} {E : TypeId} {k : IntKind} {v : Value} {ns : List Nat} (h : Own B E k w v ns) (hn : 0 < ns.length) : ∃ g c, v = .slice (some ⟨g, 0, none⟩) ns.length c ∧ B ≤ g ∧ g < w.heap.size := by
  rcases h.2 with ⟨_, h0⟩ | ⟨g, cap, _, hv, hg, hh, _⟩
  · omega
  · exact ⟨g, cap, hv, hg, (Array.getElem?_eq_some_iff.1 hh).1⟩
/-- A number of the row is written over. -/
theorem Own.set {w : World} {B : Nat} {E : TypeId} {k : IntKind} {g c n : Nat} {ns : List Nat} (h : Own B E k w (.slice (some ⟨g, 0, none⟩) n c) ns) (j x : Nat) (hj : j < ns.length) :
    Own B E k (w.setCell ⟨g, j, none⟩ (.int k (x : Nat))) (.slice (some ⟨g, 0, none⟩) n c) (ns.set j x) := by
  unfold Own at h ⊢
  rw [List.length_set]
  have hn : n = ns.length := by
    rcases h.2 with ⟨h', _⟩ | ⟨g', cap', cur, h', _⟩
    · simp at h'
    · simp only [Value.slice.injEq] at h'; exact h'.2.1
  subst hn
  have := (World.ownsRow.stored h j (.int k (x : Nat))).1
  rwa [show (cellsOf k ns).set j (.int k (x : Nat)) = cellsOf k (ns.set j x) by simp [cellsOf, List.map_set]] at this
/-- What a literal lays. -/
theorem Own.lit (w : World) (k : IntKind) (E : TypeId) (B : Nat) (hB : B ≤ w.heap.size) (ns : List Nat) (hm : ns.length ≤ maxLen) : Own B E k (w.alloc (.cells (cellsOf k ns).toArray E)) (.slice (some ⟨w.heap.size, 0, none⟩) ns.length ns.length) ns := by
  refine ⟨by simp [cellsOf], .inr ⟨_, ns.length, _, rfl, hB, heap_alloc_new w _, Nat.le_refl _, hm, by simp [cellsOf], ?_⟩⟩
  simp [cellsOf, List.take_of_length_le]
/-- What an argument that is a slice of numbers without a sign tells. -/
def RowIn (k : IntKind) (w : World) (A : Option Addr) (len cap : Nat) (ns : List Nat) : Prop := Row k w (.slice A len cap) ns ∧ (∀ n ∈ ns, (Lit.int k (n : Nat)).wf = true) ∧ ns.length = len ∧ len ≤ maxLen
theorem RowIn.none_ (k : IntKind) (w : World) : RowIn k w none 0 0 [] := ⟨Row.nil k w, fun n h => by simp at h, rfl, Nat.zero_le _⟩
theorem RowIn.of {k : IntKind} {w : World} {x : Addr} {len cap : Nat} {zs : List Int} (hl : len ≤ cap) (hm : cap ≤ maxLen) (hz : zs.length = cap) (hcell : ∀ i, i < zs.length → w.cell? (x.add i) = some (.int k (zs.getD i 0)))
    (hw : ∀ n ∈ zs, (Lit.int k n).wf = true) (h0 : ∀ n, (Lit.int k n).wf = true → 0 ≤ n) : RowIn k w (some x) len cap ((zs.take len).map Int.toNat) := by
  have hlen : ((zs.take len).map Int.toNat).length = len := by simp; omega
  have hat : ∀ i, i < len → ((wd ((zs.take len).map Int.toNat) i : Nat) : Int) = zs.getD i 0 := fun i hi => by
    have hi' : i < zs.length := by omega
    have hwf := h0 _ (hw zs[i] (List.getElem_mem hi'))
    rw [wd_lt (by rw [hlen]; exact hi)]
    simp only [List.getElem_map, List.getElem_take, List.getD_eq_getElem?_getD, List.getElem?_eq_getElem hi', Option.getD_some]
    omega
  refine ⟨⟨some x, cap, by rw [hlen], by rw [hlen]; exact hl, fun hp => ?_⟩, fun n hn => ?_, hlen, by omega⟩
  · rw [hlen] at hp
    have hc0 := hcell 0 (by omega)
    obtain ⟨b, o, spot⟩ := x
    have hs : spot = none := by simpa [Addr.add] using World.cell?_spot hc0
    subst hs
    refine ⟨b, o, rfl, World.block_lt_of_cell? w ⟨b, o, none⟩ (by simpa [Addr.add] using hc0), fun i hi => ?_⟩
    rw [hlen] at hi
    have := hcell i (by omega)
    rw [show (⟨b, o, none⟩ : Addr).add i = ⟨b, o + i, none⟩ by unfold Addr.add; split <;> simp_all] at this
    rw [this, hat i hi]
  · simp only [List.mem_map] at hn
    obtain ⟨z, hz1, rfl⟩ := hn
    have h1 := hw z (List.mem_of_mem_take hz1)
    have h2 := h0 z h1
    rw [show ((z.toNat : Nat) : Int) = z by omega]; exact h1
end Go.Proofs.Ytkijonnbngnliaa

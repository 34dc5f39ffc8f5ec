/-
  The document's pairing: its list of all that came, behind a pointer; rows of structs appended to rows of structs.
-/
import Derived.Test.YtkijonnbngnliaaPapA
import Derived.Deep.RegionLaw
import Derived.Deep.RegionHeld3
import Derived.Deep.MidRow
import Derived.Deep.CutBlock
import Derived.Deep.DeepCutAuto
namespace Go.Proofs.Ytkijonnbngnliaa
open Go.RowKit
set_option linter.unusedVariables false

theorem info_partsT {P : Program} {E : TypeId} {z : Value} {s b : Nat} (hi : (P.info? E).map (fun i => (i.zero, i.size, i.bytes)) = some (some z, s, b)) : ∃ i, P.info? E = some i ∧ i.zero = some z ∧ i.size = s ∧ i.bytes = b := by
  cases h : P.info? E with
  | none => rw [h] at hi; cases hi
  | some i => rw [h] at hi; simp at hi; exact ⟨i, rfl, hi.1, hi.2.1, hi.2.2⟩
section
variable {P : Program} (w : World)
/-- 'append(out, xs...)' of structs: out the call's own, xs a row, too. -/
theorem wp_joinT {o : Oper} {a : Act} {K : Act → World → Prop} {Q : Exit → Act → World → Prop} (s x : Operand) (t : TypeId)
    (ho : o.op = .call { callee := .builtin .append, args := #[s, x], argTypes := #[t, t] })
    (base base' : Nat) (E E' : TypeId) (z : Value) (size bytes : Nat) (ht : P.underlying t = some (.slice E)) (hi : (P.info? E).map (fun i => (i.zero, i.size, i.bytes)) = some (some z, size, bytes)) (hzs : z.cells.size = size) (hsz : 0 < size)
    (v : Value) (n : Nat) (xs : List Value) (hs : a.eval s = v) (hown : w.ownsRow base E size v n xs)
    (u : Value) (m : Nat) (ys : List Value) (hx : a.eval x = u) (hrow : w.ownsRow base' E' size u m ys) (h1 : ∀ y ∈ ys, y.oneCell' = true)
    (hlen : (n + m) * bytes ≤ 140737488355328) (hb : 0 < bytes) (hbase : base ≤ w.heap.size)
    (h : ∀ v' w', w'.ownsRow base E size v' (n + m) (xs ++ ys) → w.grownBy w' v.ownBlock → (v' = .slice none 0 0 → v = .slice none 0 0 ∧ m = 0) → K (a.put o.dst v') w') : o.wp P a w K Q := by
  obtain ⟨i, hi0, hz0, hz1, hz2⟩ := info_partsT hi
  have hmax : n + m ≤ maxLen := by
    have := Nat.le_mul_of_pos_right (n + m) hb
    unfold maxLen; omega
  have hrow' := hrow
  obtain ⟨hl, hr⟩ := hrow'
  rcases hr with ⟨rfl, rfl⟩ | ⟨g, cap, cur, rfl, _⟩
  · obtain rfl : ys = [] := List.eq_nil_of_length_eq_zero (by simpa using hl)
    have hrun := run_join_nil (P := P) w base t o.type E i size ht hi0 v n xs hown 0
    unfold Oper.wp
    simp [execOp, ho, resolve, invoke, builtin, hs, hx, hrun, Result.andThen]
    exact h v w (by simpa using hown) (World.grownBy.refl w _) (fun e => ⟨e, rfl⟩)
  · exact wp_append_own w s x t ho base E i z size bytes ht hi0 hz0 hz1 hz2 hzs hsz v n xs hs hown ⟨g, 0, none⟩ m cap ys hx hl (hrow.cells rfl) h1 hmax hlen hbase (fun v' w' h1 h2 h3 => h v' w' h1 h2 h3.1)
theorem step_joinT {ops : Array Oper} {o : Oper} {a : Act} {K : Act → World → Prop} {Q : Exit → Act → World → Prop} {X : Prop} (hgd : o.guard = none) (s x : Operand) (t : TypeId)
    (ho : o.op = .call { callee := .builtin .append, args := #[s, x], argTypes := #[t, t] })
    (base base' : Nat) (E E' : TypeId) (z : Value) (size bytes : Nat) (ht : P.underlying t = some (.slice E)) (hi : (P.info? E).map (fun i => (i.zero, i.size, i.bytes)) = some (some z, size, bytes)) (hzs : z.cells.size = size) (hsz : 0 < size)
    (v : Value) (n : Nat) (xs : List Value) (hs : a.eval s = v) (hown : w.ownsRow base E size v n xs)
    (u : Value) (m : Nat) (ys : List Value) (hx : a.eval x = u) (hrow : w.ownsRow base' E' size u m ys) (h1 : ∀ y ∈ ys, y.oneCell' = true)
    (hlen : (n + m) * bytes ≤ 140737488355328) (hb : 0 < bytes) (hbase : base ≤ w.heap.size)
    (h : ∀ v' w', w'.ownsRow base E size v' (n + m) (xs ++ ys) → w.grownBy w' v.ownBlock → (v' = .slice none 0 0 → v = .slice none 0 0 ∧ m = 0) → K (a.put o.dst v') w') : if Region.wanted o (yielded ops a.tmps) = true then Oper.wp P o a w K Q else X := by
  rw [if_pos (by simp [Region.wanted, hgd])]
  exact wp_joinT w s x t ho base base' E E' z size bytes ht hi hzs hsz v n xs hs hown u m ys hx hrow h1 hlen hb hbase h
end
section
variable {F : Nat → Prop} {w w' : World} {B B' : Nat} {E : TypeId} {size n : Nat} {v : Value} {xs : List Value}
theorem ownT_far (h : w.ownsRow B E size v n xs) (g : Far F w w') (hF : ∀ b, v.ownBlock = some b → ¬ F b) : w'.ownsRow B E size v n xs := by
  obtain ⟨h1, h2⟩ := h
  refine ⟨h1, ?_⟩
  rcases h2 with h2 | ⟨b, cap, cur, e, hb, hh, r⟩
  · exact .inl h2
  · refine .inr ⟨b, cap, cur, e, hb, ?_, r⟩
    rw [g.block b (Array.getElem?_eq_some_iff.1 hh).1 (hF b (by rw [e]; rfl))]; exact hh
theorem ownT_grew (h : w.ownsRow B E size v n xs) (g : Grew w w') : w'.ownsRow B E size v n xs := ownT_far (F := fun _ => False) h (Far.of_grew g) (fun _ _ q => q)
theorem ownT_base (h : w.ownsRow B E size v n xs) (hB : B' ≤ B) : w.ownsRow B' E size v n xs := by
  obtain ⟨h1, h2⟩ := h
  refine ⟨h1, ?_⟩
  rcases h2 with h2 | ⟨b, cap, cur, e, hb, hh, r⟩
  · exact .inl h2
  · exact .inr ⟨b, cap, cur, e, Nat.le_trans hB hb, hh, r⟩
theorem ownT_head (h : w.ownsRow B E size v n xs) (hn : 0 < n) : ∃ b c, v = .slice (some ⟨b, 0, none⟩) n c ∧ B ≤ b ∧ b < w.heap.size ∧ n ≤ c := by
  rcases h.2 with ⟨_, h0⟩ | ⟨b, cap, cur, e, hb, hh, hc, _⟩
  · omega
  · exact ⟨b, cap, e, hb, (Array.getElem?_eq_some_iff.1 hh).1, hc⟩
theorem ownT_form (h : w.ownsRow B E size v n xs) : ∃ A c, v = .slice A n c ∧ n ≤ c := by
  rcases h.2 with ⟨e, h0⟩ | ⟨b, cap, cur, e, hb, hh, hc, _⟩
  · exact ⟨none, 0, by rw [e, h0], by omega⟩
  · exact ⟨_, cap, e, hc⟩
theorem Grew.pushT {w0 : World} (g : Grew w0 w) (h : w.ownsRow B E size v n xs) (hB : w0.heap.size ≤ B) (hg : w.grownBy w' v.ownBlock) : Grew w0 w' :=
  Below.grown g hg g.size (fun b hb => Nat.le_trans hB (World.ownsRow.lt h b hb).1)
end
/- The list of all that came. -/
def tgC (t : Tg) : List Value := [.int .i64 t.at_, .bool t.edge, .int .u8 t.msg.kind, .bool t.msg.utc, .int .i64 t.msg.sec, .bool t.msg.leap, .int .i64 t.msg.cycle, .bool t.msg.next, .bool t.isin, .bool t.gone]
def flatT : List Tg → List Value
  | [] => []
  | t :: T => tgC t ++ flatT T
theorem tgC_len (t : Tg) : (tgC t).length = 10 := rfl
theorem flatT_len : ∀ T : List Tg, (flatT T).length = T.length * 10
  | [] => rfl
  | t :: T => by rw [flatT, List.length_append, flatT_len T, tgC_len, List.length_cons]; omega
theorem flatT_app : ∀ T U : List Tg, flatT (T ++ U) = flatT T ++ flatT U
  | [], U => rfl
  | t :: T, U => by rw [List.cons_append, flatT, flatT, flatT_app T U, List.append_assoc]
theorem flatT_one (t : Tg) : flatT [t] = tgC t := by simp [flatT]
theorem flatT_at : ∀ (T : List Tg) (i k : Nat), i < T.length → k < 10 → (flatT T)[i * 10 + k]? = (tgC (tg T i))[k]?
  | [], i, k, h, _ => by simp at h
  | t :: T, 0, k, _, hk => by
    rw [flatT, List.getElem?_append_left (by rw [tgC_len]; omega), Nat.zero_mul, Nat.zero_add]
    rfl
  | t :: T, i + 1, k, h, hk => by
    rw [flatT, List.getElem?_append_right (by rw [tgC_len]; omega), tgC_len, show (i + 1) * 10 + k - 10 = i * 10 + k by omega, flatT_at T i k (by simpa using h) hk]
    rfl
theorem flatT_set : ∀ (T : List Tg) (i k : Nat) (v : Value) (t' : Tg), i < T.length → k < 10 → (tgC (tg T i)).set k v = tgC t' → (flatT T).set (i * 10 + k) v = flatT (T.set i t')
  | [], i, k, v, t', h, _, _ => by simp at h
  | t :: T, 0, k, v, t', _, hk, e => by
    rw [flatT, Nat.zero_mul, Nat.zero_add, List.set_append_left _ _ (by rw [tgC_len]; omega), List.set_cons_zero, flatT]
    rw [show (tgC t).set k v = tgC t' from e]
  | t :: T, i + 1, k, v, t', h, hk, e => by
    rw [flatT, List.set_append_right _ _ (by rw [tgC_len]; omega), tgC_len, show (i + 1) * 10 + k - 10 = i * 10 + k by omega, flatT_set T i k v t' (by simpa using h) hk e, List.set_cons_succ, flatT]
theorem flatT_one1 : ∀ (T : List Tg), ∀ y ∈ flatT T, y.oneCell' = true
  | [], y, h => by simp [flatT] at h
  | t :: T, y, h => by
    rw [flatT, List.mem_append] at h
    rcases h with h | h
    · simp only [tgC, List.mem_cons, List.not_mem_nil, or_false] at h
      rcases h with h | h | h | h | h | h | h | h | h | h <;> subst h <;> rfl
    · exact flatT_one1 T y h
/-- The document's pairing in block r: its list of all that came. -/
structure RefP (w : World) (r : Nat) (win : Int) (L : Value) (T : List Tg) : Prop where
  at_ : At w r [.int .i64 win, L]
  row : w.ownsRow 0 59 10 L T.length (flatT T)
  ne : ∀ b, L.ownBlock = some b → b ≠ r
section
variable {F : Nat → Prop} {w w' : World} {r : Nat} {win : Int} {L : Value} {T : List Tg}
theorem RefP.far (h : RefP w r win L T) (g : Far F w w') (hr : ¬ F r) (hF : ∀ b, L.ownBlock = some b → ¬ F b) : RefP w' r win L T := ⟨h.at_.far g hr, ownT_far h.row g hF, h.ne⟩
theorem RefP.grew (h : RefP w r win L T) (g : Grew w w') : RefP w' r win L T := ⟨h.at_.grew g, ownT_grew h.row g, h.ne⟩
theorem RefP.lt (h : RefP w r win L T) : ∀ b, L.ownBlock = some b → b < w.heap.size := fun b hb => (World.ownsRow.lt h.row b hb).2
/-- What stands at the i-th place. -/
theorem RefP.cell {b c : Nat} {n : Nat} (h : RefP w r win (.slice (some ⟨b, 0, none⟩) n c) T) (i k : Nat) (hi : i < T.length) (hk : k < 10) (v : Value) (hv : (tgC (tg T i))[k]? = some v) : w.cell? ⟨b, i * 10 + k, none⟩ = some v := by
  have hr := h.row
  obtain ⟨A, c', e, _⟩ := ownT_form hr
  simp only [Value.slice.injEq] at e
  obtain ⟨rfl, rfl, rfl⟩ := e
  rw [hr.cellAt (i * 10 + k) (by omega), flatT_at T i k hi hk, hv]
theorem RefP.fz {b c : Nat} {n : Nat} (h : RefP w r win (.slice (some ⟨b, 0, none⟩) n c) T) (j : Nat) : w.frozen? ⟨b, j, none⟩ = false := by
  have hr := h.row
  obtain ⟨A, c', e, _⟩ := ownT_form hr
  simp only [Value.slice.injEq] at e
  obtain ⟨rfl, rfl, rfl⟩ := e
  exact hr.frozenAt j
/-- A cell of the list is another one. -/
theorem RefP.set {b c : Nat} {n : Nat} (h : RefP w r win (.slice (some ⟨b, 0, none⟩) n c) T) (i k : Nat) (hi : i < T.length) (hk : k < 10) (v : Value) (t' : Tg) (e : (tgC (tg T i)).set k v = tgC t') : RefP (w.setCell ⟨b, i * 10 + k, none⟩ v) r win (.slice (some ⟨b, 0, none⟩) n c) (T.set i t') := by
  have hr := h.row
  have hn : n = T.length := by
    obtain ⟨A, c', e, _⟩ := ownT_form hr
    simp only [Value.slice.injEq] at e
    exact e.2.1
  subst hn
  have hne := h.ne b rfl
  refine ⟨h.at_.far (Far.one w ⟨b, i * 10 + k, none⟩ v) (fun q => hne q.symm), ?_, h.ne⟩
  rw [List.length_set]
  have := (World.ownsRow.stored hr (i * 10 + k) v).1
  rwa [flatT_set T i k v t' hi hk e] at this
end
theorem infoThing : (Try.prog.info? 59).map (fun i => (i.zero, i.size, i.bytes)) = some (some (.agg #[.int .i64 0, .bool false, .int .u8 0, .bool false, .int .i64 0, .bool false, .int .i64 0, .bool false, .bool false, .bool false]), 10, 64) := by kernel_rfl
end Go.Proofs.Ytkijonnbngnliaa

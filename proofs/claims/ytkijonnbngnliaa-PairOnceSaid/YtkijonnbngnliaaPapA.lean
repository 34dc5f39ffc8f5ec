/-
  The program's pairing behind two pointers: its five cells, its edges, the message that waits; its short calls.
-/
import Derived.Test.YtkijonnbngnliaaPaiA
import Derived.Test.YtkijonnbngnliaaCellsW
namespace Go.Proofs.Ytkijonnbngnliaa
open Go.RowKit
set_option linter.unusedVariables false

theorem Far.drewF {F : Nat → Prop} {a w : World} (h : Far F a w) : Far F a w.drew := h.trans (Far.of_grew (Grew.refl w).drew)
/-- A block that holds these cells, and may be written. -/
structure At (w : World) (q : Nat) (vs : List Value) : Prop where
  lt : q < w.heap.size
  cell : ∀ j v, vs[j]? = some v → w.cell? ⟨q, j, none⟩ = some v
  fz : ∀ j, w.frozen? ⟨q, j, none⟩ = false
section
variable {F : Nat → Prop} {w w' : World} {q : Nat} {vs : List Value}
theorem At.far (h : At w q vs) (k : Far F w w') (hq : ¬ F q) : At w' q vs :=
  ⟨Nat.lt_of_lt_of_le h.lt k.size, fun j v hj => (k.cell (p := ⟨q, j, none⟩) h.lt hq).trans (h.cell j v hj), fun j => (k.frozen (p := ⟨q, j, none⟩) h.lt hq).trans (h.fz j)⟩
theorem At.grew (h : At w q vs) (k : Grew w w') : At w' q vs := h.far (F := fun _ => False) (Far.of_grew k) (fun q => q)
theorem At.set (h : At w q vs) (j : Nat) (v : Value) (hj : j < vs.length) : At (w.setCell ⟨q, j, none⟩ v) q (vs.set j v) := by
  refine ⟨by simpa [World.setCell] using h.lt, fun i u hi => ?_, fun i => by simpa [go_sem] using h.fz i⟩
  rw [List.getElem?_set] at hi
  by_cases e : j = i
  · subst e
    rw [if_pos rfl, if_pos hj] at hi
    cases hi
    exact World.cell?_setCell_same _ _ _ (h.cell j _ (List.getElem?_eq_getElem hj))
  · rw [if_neg e] at hi
    rw [World.cell?_setCell_other _ _ _ _ (addrE_ne e)]
    exact h.cell i u hi
theorem At.new (w : World) (vs : List Value) (T : TypeId) : At (w.alloc (.cells vs.toArray T)) w.heap.size vs := by
  refine ⟨by simp, fun j v hj => ?_, fun j => by simp [go_sem]⟩
  rw [cell_of_row _ w.heap.size j vs.toArray T (0, 0) (heap_alloc_new w _)]
  simpa using hj
end
theorem At.seven {w : World} {r : Nat} {a0 a1 a2 a3 a4 a5 a6 : Value} (h : At w r [a0, a1, a2, a3, a4, a5, a6]) :
    (w.cell? ⟨r, 0, none⟩ = some a0 ∧ w.cell? ⟨r, 1, none⟩ = some a1 ∧ w.cell? ⟨r, 2, none⟩ = some a2 ∧ w.cell? ⟨r, 3, none⟩ = some a3 ∧ w.cell? ⟨r, 4, none⟩ = some a4 ∧ w.cell? ⟨r, 5, none⟩ = some a5 ∧ w.cell? ⟨r, 6, none⟩ = some a6) ∧
    (w.frozen? ⟨r, 0, none⟩ = false ∧ w.frozen? ⟨r, 1, none⟩ = false ∧ w.frozen? ⟨r, 2, none⟩ = false ∧ w.frozen? ⟨r, 3, none⟩ = false ∧ w.frozen? ⟨r, 4, none⟩ = false ∧ w.frozen? ⟨r, 5, none⟩ = false ∧ w.frozen? ⟨r, 6, none⟩ = false) :=
  ⟨⟨h.cell 0 _ rfl, h.cell 1 _ rfl, h.cell 2 _ rfl, h.cell 3 _ rfl, h.cell 4 _ rfl, h.cell 5 _ rfl, h.cell 6 _ rfl⟩, h.fz 0, h.fz 1, h.fz 2, h.fz 3, h.fz 4, h.fz 5, h.fz 6⟩
/-- The cells of a pair that is none. -/
def noPdC : List Value := [.int .i64 0, .int .u8 0, .bool false, .int .i64 0, .bool false, .int .i64 0, .bool false]
/-- The message that waits, as a pointer. -/
def waitV (hb : Nat) : Option (Int × Ms) → Value
  | none => .pointer none
  | some _ => .pointer (some ⟨hb, 0, none⟩)
def waitC (q : Int × Ms) : List Value := [.int .i64 q.1, .int .u8 q.2.kind, .bool q.2.utc, .int .i64 q.2.sec, .bool q.2.leap, .int .i64 q.2.cycle, .bool q.2.next]
/-- The pairing in block q: its edges in block e, the message that waits in block hb. -/
structure PagAt (w : World) (q e hb : Nat) (g : Pg) : Prop where
  at_ : At w q [.pointer (some ⟨e, 0, none⟩), .int .i64 g.win, .int .i64 g.latest, .bool g.taken, waitV hb g.waits]
  log : LogR w e 0 g.L
  wait : ∀ x, g.waits = some x → At w hb (waitC x)
  qe : q ≠ e
  hq : hb ≠ q
  he : hb ≠ e
  hl : hb < w.heap.size
  ok : PgOk g
/-- The pairing behind a pointer to block p. -/
structure PaiAt (w : World) (p q e hb : Nat) (g : Pg) : Prop where
  top : At w p [.pointer (some ⟨q, 0, none⟩)]
  pag : PagAt w q e hb g
  pq : p ≠ q
  pe : p ≠ e
section
variable {F : Nat → Prop} {w w' : World} {p q e hb : Nat} {g : Pg}
theorem PagAt.far (h : PagAt w q e hb g) (k : Far F w w') (h1 : ¬ F q) (h2 : ¬ F e) (h3 : ¬ F hb) : PagAt w' q e hb g :=
  ⟨h.at_.far k h1, h.log.far k h2, fun x hx => (h.wait x hx).far k h3, h.qe, h.hq, h.he, Nat.lt_of_lt_of_le h.hl k.size, h.ok⟩
theorem PaiAt.far (h : PaiAt w p q e hb g) (k : Far F w w') (h0 : ¬ F p) (h1 : ¬ F q) (h2 : ¬ F e) (h3 : ¬ F hb) : PaiAt w' p q e hb g :=
  ⟨h.top.far k h0, h.pag.far k h1 h2 h3, h.pq, h.pe⟩
theorem PagAt.grew (h : PagAt w q e hb g) (k : Grew w w') : PagAt w' q e hb g := h.far (F := fun _ => False) (Far.of_grew k) (fun q => q) (fun q => q) (fun q => q)
theorem PaiAt.grew (h : PaiAt w p q e hb g) (k : Grew w w') : PaiAt w' p q e hb g := h.far (F := fun _ => False) (Far.of_grew k) (fun q => q) (fun q => q) (fun q => q) (fun q => q)
end
-- [SHORT
theorem pai_isMade (w : World) (p q : Nat) (h : At w p [.pointer (some ⟨q, 0, none⟩)]) :
    Calls Try.prog 16 #[.pointer (some ⟨p, 0, none⟩)] w fun e w' => e = .returned (.bool true) ∧ w = w' := by
  have c0 := h.cell 0 _ rfl
  have lt := h.lt
  clear h
  go_enter Try.func16, Try.ntmps16
  go_wp2_with fail
  go_ret
  exact ⟨rfl, rfl⟩
theorem pai_isMade_none (w : World) :
    Calls Try.prog 16 #[.pointer none] w fun e w' => e = .returned (.bool false) ∧ w = w' := by
  go_enter Try.func16, Try.ntmps16
  go_wp2_with fail
  go_ret
  exact ⟨rfl, rfl⟩
theorem pai_inner (w : World) (p q : Nat) (h : At w p [.pointer (some ⟨q, 0, none⟩)]) :
    Calls Try.prog 18 #[.pointer (some ⟨p, 0, none⟩)] w fun e w' => e = .returned (.pointer (some ⟨q, 0, none⟩)) ∧ w = w' := by
  have HM := Lib.hid (pai_isMade w p q h)
  have c0 := h.cell 0 _ rfl
  have lt := h.lt
  clear h
  go_enter Try.func18, Try.ntmps18
  go_wp2_with (go_at_call 16; refine HM.out.mono ?_; rintro e w1 ⟨rfl, hw1⟩; subst hw1)
  go_ret
  exact ⟨rfl, rfl⟩
theorem pai_inner_none (w : World) :
    Calls Try.prog 18 #[.pointer none] w fun e w' => e = .returned (.pointer (some ⟨w.heap.size, 0, none⟩)) ∧ At w' w.heap.size [.pointer none, .int .i64 0, .int .i64 0, .bool false, .pointer none] ∧ Grew w w' := by
  have HM := Lib.hid (pai_isMade_none w)
  go_enter Try.func18, Try.ntmps18
  go_wp2_with (go_at_call 16; refine HM.out.mono ?_; rintro e w1 ⟨rfl, hw1⟩; subst hw1)
  go_ret
  exact ⟨rfl, At.new w [.pointer none, .int .i64 0, .int .i64 0, .bool false, .pointer none] _, (Grew.refl w).alloc _⟩
theorem pai_Waits (w : World) (p q e hb : Nat) (g : Pg) (h : PaiAt w p q e hb g) :
    Calls Try.prog 13 #[.pointer (some ⟨p, 0, none⟩)] w fun e w' => e = .returned (.bool g.waits.isSome) ∧ w = w' := by
  have HI := Lib.hid (pai_inner w p q h.top)
  have c4 := h.pag.at_.cell 4 _ rfl
  have lt := h.pag.at_.lt
  clear h
  cases hg : g.waits with
  | none =>
    rw [hg] at c4
    unfold waitV at c4
    clear hg
    go_enter Try.func13, Try.ntmps13
    go_wp2_with (go_at_call 18; refine HI.out.mono ?_; rintro e w1 ⟨rfl, hw1⟩; subst hw1)
    go_ret
    exact ⟨rfl, rfl⟩
  | some x =>
    rw [hg] at c4
    unfold waitV at c4
    clear hg
    go_enter Try.func13, Try.ntmps13
    go_wp2_with (go_at_call 18; refine HI.out.mono ?_; rintro e w1 ⟨rfl, hw1⟩; subst hw1)
    go_ret
    exact ⟨rfl, rfl⟩
theorem pai_Waits_none (w : World) :
    Calls Try.prog 13 #[.pointer none] w fun e w' => e = .returned (.bool false) ∧ Grew w w' := by
  have HI := Lib.hid (pai_inner_none w)
  go_enter Try.func13, Try.ntmps13
  go_wp2_with (go_at_call 18; refine HI.out.mono ?_; rintro e w1 ⟨rfl, h1, g1⟩; have c4 := h1.cell 4 _ rfl; have l1 := h1.lt)
  go_ret
  exact ⟨rfl, g1⟩
theorem pai_Copy_none (w : World) :
    Calls Try.prog 7 #[.pointer none] w fun e w' => e = .returned (.pointer none) ∧ w = w' := by
  have HM := Lib.hid (pai_isMade_none w)
  go_enter Try.func7, Try.ntmps7
  go_wp2_with (go_at_call 16; refine HM.out.mono ?_; rintro e w1 ⟨rfl, hw1⟩; subst hw1)
  go_ret
  exact ⟨rfl, rfl⟩
theorem pai_New_no (w : World) (win : Int) (h : win < 100000000 ∨ 900000000 < win) :
    Calls Try.prog 6 #[.int .i64 win] w fun e w' => e = .returned (.tuple #[.pointer none, .int .i64 2]) ∧ w = w' := by
  by_cases h1 : win < 100000000
  · go_enter Try.func6, Try.ntmps6
    go_wp2_with fail
    go_ret2
    exact ⟨rfl, rfl⟩
  · have h2 : 900000000 < win := by omega
    go_enter Try.func6, Try.ntmps6
    go_wp2_with fail
    go_ret2
    exact ⟨rfl, rfl⟩
theorem pai_New (w : World) (win : Int) (h : 100000000 ≤ win ∧ win ≤ 900000000) :
    Calls Try.prog 6 #[.int .i64 win] w fun e w' => ∃ p q b, e = .returned (.tuple #[.pointer (some ⟨p, 0, none⟩), .int .i64 0]) ∧ PaiAt w' p q b p (pgNew win) ∧ (w.heap.size ≤ p ∧ w.heap.size ≤ q ∧ w.heap.size ≤ b) ∧ Grew w w' := by
  have HN := Lib.hid (log_New w)
  have h1 : ¬ win < 100000000 := by omega
  have h2 : ¬ 900000000 < win := by omega
  go_enter Try.func6, Try.ntmps6
  go_wp2_with (go_at_call 15; refine HN.out.mono ?_; rintro e w1 ⟨rfl, l1, g1⟩; replace l1 := Lib.hid l1; replace g1 := Lib.hid g1)
  go_ret2
  have lt1 := l1.out.lt
  have A1 := At.new w1 [.pointer (some ⟨w.heap.size, 0, none⟩), .int .i64 win, .int .i64 0, .bool false, .pointer none] 50
  have gA : Grew w1 (w1.alloc (.cells #[.pointer (some ⟨w.heap.size, 0, none⟩), .int .i64 win, .int .i64 0, .bool false, .pointer none] 50)) := (Grew.refl w1).alloc _
  have s1 := g1.out.size
  refine ⟨w1.heap.size + 1, w1.heap.size, w.heap.size, rfl, ⟨?_, ⟨?_, (l1.out.grew gA).grew ((Grew.refl _).alloc _), fun x e => (by cases e), by omega, by omega, by omega, by simp, PgOk.new h⟩, by omega, by omega⟩, ⟨by omega, s1, Nat.le_refl _⟩, g1.out.trans (gA.alloc _)⟩
  · have := At.new (w1.alloc (.cells #[.pointer (some ⟨w.heap.size, 0, none⟩), .int .i64 win, .int .i64 0, .bool false, .pointer none] 50)) [.pointer (some ⟨w1.heap.size, 0, none⟩)] 52
    simpa using this
  · exact A1.grew ((Grew.refl _).alloc _)
-- SHORT]
end Go.Proofs.Ytkijonnbngnliaa

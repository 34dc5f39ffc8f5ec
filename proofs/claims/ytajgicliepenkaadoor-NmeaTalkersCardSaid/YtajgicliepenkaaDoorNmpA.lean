/-
  The program's sentences: what a reader holds in memory, and what it gathers.
-/
import Derived.Test.YtajgicliepenkaaDoorNmpM
import Derived.Test.YtajgicliepenkaaDoorFar
import Derived.Test.YtajgicliepenkaaDoorFlpE
import Derived.Test.YtajgicliepenkaaDoorFlpG
import Derived.Test.YtajgicliepenkaaDoorFlpH
import Derived.Test.YtajgicliepenkaaDoorFlpK
import Derived.Handy
namespace Go.Proofs.YtajgicliepenkaaDoor
open Go.RowKit
set_option linter.unusedVariables false

/-- A reader: fields, and what gathers. -/
def rv (S n c E : Nat) : Value := .agg #[.slice (some ⟨S, 0, none⟩) n c, .func (.func 9) #[] #[.pointer (some ⟨E, 0, none⟩)]]
/-- A reader's things in memory. -/
structure Rd (w : World) (S n c : Nat) (bs : List ByteArray) (E X : Nat) (s : Rs) : Prop where
  len : bs.length = n
  cap : n ≤ c
  hS : S < w.heap.size
  fields : ∀ (j : Nat) x, bs[j]? = some x → w.cell? ⟨S, j, none⟩ = some (.string x)
  small : ∀ (j : Nat) x, bs[j]? = some x → x.size ≤ 1000
  many : n ≤ 1001
  err : w.heap[E]? = some (.cells #[.int .i64 (if s.2 then 5 else 0)] 27)
  fix : w.heap[X]? = some (.cells s.1.cells 26)
  SE : S ≠ E
  SX : S ≠ X
  EX : E ≠ X
abbrev FarE (E : Nat) := Far (fun k => k = E)
section
variable {w w' : World} {S n c E X : Nat} {bs : List ByteArray} {s : Rs}
theorem Rd.hE (h : Rd w S n c bs E X s) : E < w.heap.size := (Array.getElem?_eq_some_iff.1 h.err).1
theorem Rd.hX (h : Rd w S n c bs E X s) : X < w.heap.size := (Array.getElem?_eq_some_iff.1 h.fix).1
theorem Rd.cellE (h : Rd w S n c bs E X s) : w.cell? ⟨E, 0, none⟩ = some (.int .i64 (if s.2 then 5 else 0)) := by simp [World.cell?, h.err]
theorem Rd.frozenE (h : Rd w S n c bs E X s) : w.frozen? ⟨E, 0, none⟩ = false := by simp [World.frozen?, h.err]
theorem Rd.cellX (h : Rd w S n c bs E X s) (k : Nat) (v : Value) (hk : s.1.cells[k]? = some v) : w.cell? ⟨X, k, none⟩ = some v := by simp [World.cell?, h.fix, hk]
theorem Rd.frozenX (h : Rd w S n c bs E X s) (k : Nat) : w.frozen? ⟨X, k, none⟩ = false := by simp [World.frozen?, h.fix]
theorem Rd.grew (h : Rd w S n c bs E X s) (g : Grew w w') : Rd w' S n c bs E X s :=
  ⟨h.len, h.cap, Nat.lt_of_lt_of_le h.hS g.size, fun j x hj => (g.cell (p := ⟨S, j, none⟩) h.hS).trans (h.fields j x hj), h.small, h.many, (g.below.block _ h.hE).trans h.err, (g.below.block _ h.hX).trans h.fix, h.SE, h.SX, h.EX⟩
/-- Behind calls that write what is gathered alone. -/
theorem Rd.far {b : Bool} (h : Rd w S n c bs E X s) (g : FarE E w w') (he : w'.heap[E]? = some (.cells #[.int .i64 (if b then 5 else 0)] 27)) : Rd w' S n c bs E X (s.1, b) :=
  ⟨h.len, h.cap, Nat.lt_of_lt_of_le h.hS g.size, fun j x hj => (g.cell (p := ⟨S, j, none⟩) h.hS h.SE).trans (h.fields j x hj), h.small, h.many, he, (g.block _ h.hX (fun e => h.EX e.symm)).trans h.fix, h.SE, h.SX, h.EX⟩
theorem heap_setCell_cells {w : World} {b k : Nat} {a : Array Value} {t : TypeId} (h : w.heap[b]? = some (.cells a t)) (v : Value) : (w.setCell ⟨b, k, none⟩ v).heap[b]? = some (.cells (a.setIfInBounds k v) t) := by
  show (w.heap.modify b _)[b]? = _
  rw [Array.getElem?_modify, if_pos rfl, h]
  rfl
theorem Rd.five (h : Rd w S n c bs E X s) : Rd (w.setCell ⟨E, 0, none⟩ (.int .i64 5)) S n c bs E X (s.1, true) :=
  h.far (Far.one w ⟨E, 0, none⟩ _) (by rw [heap_setCell_cells h.err]; rfl)
/-- A cell of what is told is written. -/
theorem Rd.put (h : Rd w S n c bs E X s) (k : Nat) (v : Value) (F : Told) (hF : s.1.cells.setIfInBounds k v = F.cells) : Rd (w.setCell ⟨X, k, none⟩ v) S n c bs E X (F, s.2) := by
  have g : Far (fun b => b = X) w (w.setCell ⟨X, k, none⟩ v) := Far.one w ⟨X, k, none⟩ v
  exact ⟨h.len, h.cap, Nat.lt_of_lt_of_le h.hS g.size, fun j x hj => (g.cell (p := ⟨S, j, none⟩) h.hS h.SX).trans (h.fields j x hj), h.small, h.many, (g.block _ h.hE h.EX).trans h.err, by rw [heap_setCell_cells h.fix, hF], h.SE, h.SX, h.EX⟩
theorem Rd.eta (h : Rd w S n c bs E X s) : Rd w S n c bs E X (s.1, s.2) := h
theorem FarE.grew (h : FarE E w w') {a : World} (g : Grew a w) (hE : a.heap.size ≤ E) : Grew a w' := Far.grew h g (fun k e => e ▸ hE)
/-- What a call of a reader has done. -/
def Rdt (w : World) (S n c : Nat) (bs : List ByteArray) (E X : Nat) (s : Rs) (v : Value) (e : Ending) (w' : World) : Prop := e = .returned v ∧ Rd w' S n c bs E X s ∧ FarE E w w'

theorem ifb_true : (if true = true then (5 : Int) else 0) = 5 := rfl
theorem r_gather (h : Rd w S n c bs E X s) (t : Nat) (ht : t < 1000) : Calls Tryd.prog 9 #[.int .i64 (t : Nat), .pointer (some ⟨E, 0, none⟩)] w (Rdt w S n c bs E X (s.1, s.2 || badE t) (.tuple #[])) := by
  have c0 := h.cellE
  have f0 := h.frozenE
  by_cases h0 : t = 0
  · subst h0
    have HH := Lib.hid h
    clear h
    go_enter Tryd.func9, Tryd.ntmps9
    go_wp2_with fail
    go_returns
    exact ⟨rfl, by rw [show badE 0 = false from rfl, Bool.or_false]; exact HH.out, Far.refl _ _⟩
  · by_cases h7 : t = 7
    · subst h7
      have HH := Lib.hid h
      clear h
      go_enter Tryd.func9, Tryd.ntmps9
      go_wp2_with fail
      go_returns
      exact ⟨rfl, by rw [show badE 7 = false from rfl, Bool.or_false]; exact HH.out, Far.refl _ _⟩
    · have hb : badE t = true := by simp [badE, h0, h7]
      have HH := Lib.hid h.five
      have z0 : ((t : Int) == 0) = false := by simpa using h0
      have z7 : ((t : Int) == 7) = false := by simp; omega
      have x0 : ((t : Int) != 0) = true := by simp; omega
      have x7 : ((t : Int) != 7) = true := by simp; omega
      have y0 : ¬ (t : Int) = 0 := by omega
      have y7 : ¬ (t : Int) = 7 := by omega
      clear h h0 h7
      go_enter Tryd.func9, Tryd.ntmps9
      go_wp2_with fail
      go_returns
      exact ⟨rfl, by rw [hb, Bool.or_true]; exact HH.out, Far.one w ⟨E, 0, none⟩ _⟩

/-- A reader's own copy. -/
theorem boxR (w : World) (S n c E : Nat) : ∃ W, w.alloc (.cells #[.slice (some ⟨S, 0, none⟩) n c, .func (.func 9) #[] #[.pointer (some ⟨E, 0, none⟩)]] 43) = W ∧ Grew w W ∧ w.heap.size < W.heap.size ∧ W.cell? ⟨w.heap.size, 0, none⟩ = some (.slice (some ⟨S, 0, none⟩) n c) ∧ W.cell? ⟨w.heap.size, 1, none⟩ = some (.func (.func 9) #[] #[.pointer (some ⟨E, 0, none⟩)]) :=
  ⟨_, rfl, (Grew.refl w).alloc _, by simp, by simp [go_sem], by simp [go_sem]⟩

set_option maxHeartbeats 1000000 in
theorem r_ask (h : Rd w S n c bs E X s) (b : Bool) : Calls Tryd.prog 19 #[rv S n c E, .bool b] w (Rdt w S n c bs E X (s.1, s.2 || !b) (.tuple #[])) := by
  obtain ⟨W, hW, gW, ltW, d0, d1⟩ := boxR w S n c E
  have HH := Lib.hid (h.grew gW)
  have HG := Lib.hid (r_gather (h.grew gW) 5 (by omega))
  unfold Rdt at HG
  have GW := Lib.hid gW
  clear h gW
  unfold rv
  cases b
  · go_enter Tryd.func19, Tryd.ntmps19
    go_upto_region 1 with fail
    go_wp2_with (go_at_call 9; refine HG.out.mono ?_; rintro e w1 ⟨rfl, h1, g1⟩)
    go_returns
    exact ⟨rfl, h1, (Far.of_grew GW.out).trans g1⟩
  · go_enter Tryd.func19, Tryd.ntmps19
    go_upto_region 1 with fail
    go_wp2_with fail
    go_returns
    exact ⟨rfl, by rw [Bool.not_true, Bool.or_false]; exact HH.out, Far.of_grew GW.out⟩

set_option maxHeartbeats 1000000 in
theorem r_there (h : Rd w S n c bs E X s) (t : Nat) (ht : t < 1000) : Calls Tryd.prog 51 #[rv S n c E, .int .i64 (t : Nat)] w (Rdt w S n c bs E X (s.1, s.2 || badE t) (.bool (t == 0))) := by
  obtain ⟨W, hW, gW, ltW, d0, d1⟩ := boxR w S n c E
  have HG := Lib.hid (r_gather (h.grew gW) t ht)
  unfold Rdt at HG
  have GW := Lib.hid gW
  have e0 : ((t : Int) == 0) = (t == 0) := by
    rw [Bool.eq_iff_iff, beq_iff_eq, beq_iff_eq]; omega
  have E0 := Lib.hid e0
  clear h gW e0
  unfold rv
  go_enter Tryd.func51, Tryd.ntmps51
  go_upto_region 1 with fail
  go_wp2_with (go_at_call 9; refine HG.out.mono ?_; rintro e w1 ⟨rfl, h1, g1⟩)
  go_ret
  refine ⟨?_, h1, (Far.of_grew GW.out).trans g1⟩
  first | (rw [← E0.out]; rfl) | (rw [← E0.out]; simp)
end
end Go.Proofs.YtajgicliepenkaaDoor

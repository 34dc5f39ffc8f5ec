/-
  Slices that read as lists of numbers; contracts of the document's words and bits.
-/
import Derived.Test.YtkijonnbngnliaaGrew
import Derived.Test.YtkijonnbngnliaaNum
import Derived.Test.YtkijonnbngnliaaBig
import Derived.Laws.OwnMore
import Derived.OwnWalk
import Derived.Handy
namespace Go.Proofs.Ytkijonnbngnliaa
open Go.RowKit
set_option linter.unusedVariables false

/-- A slice value that reads as the numbers ns of kind k: its cells lie in blocks that are there. -/
def Row (k : IntKind) (w : World) (v : Value) (ns : List Nat) : Prop :=
  ∃ (A : Option Addr) (c : Nat), v = .slice A ns.length c ∧ ns.length ≤ c ∧
    (0 < ns.length → ∃ b o, A = some ⟨b, o, none⟩ ∧ b < w.heap.size ∧ ∀ i, i < ns.length → w.cell? ⟨b, o + i, none⟩ = some (.int k (wd ns i : Nat)))

theorem Row.grew {k : IntKind} {w w' : World} {v : Value} {ns : List Nat} (h : Row k w v ns) (g : Grew w w') : Row k w' v ns := by
  obtain ⟨A, c, rfl, hc, hr⟩ := h
  refine ⟨A, c, rfl, hc, fun hn => ?_⟩
  obtain ⟨b, o, rfl, hb, hcell⟩ := hr hn
  exact ⟨b, o, rfl, Nat.lt_of_lt_of_le hb g.size, fun i hi => (g.cell (p := ⟨b, o + i, none⟩) hb).trans (hcell i hi)⟩
theorem Row.nil (k : IntKind) (w : World) : Row k w (.slice none 0 0) [] := ⟨none, 0, rfl, by simp, fun h => by simp at h⟩

theorem Row.form {k : IntKind} {w : World} {v : Value} {ns : List Nat} (h : Row k w v ns) : ∃ A c, v = .slice A ns.length c ∧ ns.length ≤ c := by
  obtain ⟨A, c, e, hc, _⟩ := h; exact ⟨A, c, e, hc⟩
theorem Row.at_ {k : IntKind} {w : World} {A : Option Addr} {n c : Nat} {ns : List Nat} (h : Row k w (.slice A n c) ns) {i : Nat} (hi : i < ns.length) :
    ∃ b o, A = some ⟨b, o, none⟩ ∧ b < w.heap.size ∧ w.cell? ⟨b, o + i, none⟩ = some (.int k (wd ns i : Nat)) := by
  obtain ⟨A', c', e, _, hr⟩ := h
  obtain ⟨b, o, e2, hb, hcl⟩ := hr (by omega)
  simp only [Value.slice.injEq] at e
  exact ⟨b, o, e.1.trans e2, hb, hcl i hi⟩

theorem Row.take {k : IntKind} {w : World} {A : Option Addr} {n c m : Nat} {ns : List Nat} (h : Row k w (.slice A n c) ns) (hm : m ≤ ns.length) : Row k w (.slice A m c) (ns.take m) := by
  obtain ⟨A', c', e, hc, hr⟩ := h
  simp only [Value.slice.injEq] at e
  obtain ⟨rfl, rfl, rfl⟩ := e
  have hl : (ns.take m).length = m := by rw [List.length_take]; omega
  refine ⟨A, c, by rw [hl], by omega, fun hp => ?_⟩
  obtain ⟨b, o, e2, hb, hcl⟩ := hr (by omega)
  refine ⟨b, o, e2, hb, fun i hi => ?_⟩
  rw [hcl i (by omega)]
  have : wd (ns.take m) i = wd ns i := by unfold wd; rw [List.getD_eq_getElem?_getD, List.getElem?_take, if_pos (by omega), List.getD_eq_getElem?_getD]
  rw [this]


/-- Is bit j of the number set? -/
def bitAt (xs : List Nat) (j : Nat) : Bool := decide (val xs / 2 ^ j % 2 = 1)
theorem and_one (n : Nat) (h : n < 18446744073709551616) : bits BinOp.and IntKind.u64 (n : Int) 1 = ((n % 2 : Nat) : Int) := by
  have := bits_and_u64_nat n 1 h (by omega)
  rw [Nat.and_one_is_mod] at this
  exact this


/-- Which of two numbers is the larger one. -/
def cmpOf (x y : Nat) : Int := if y < x then 1 else if x < y then -1 else 0

end Go.Proofs.Ytkijonnbngnliaa

/-
  A moment among the arguments, opened and shut.
-/
import Derived.Test.YtinapfnhnakcjaaDoorCivU
import Derived.ProofKit
import Derived.OpenShut
import Derived.Lib.SmallJoins
namespace Go.Proofs.YtinapfnhnakcjaaDoor
open Go.Joins Go.ChangeShapes Go.WideShapes Go.ChangeAt Go.RowKit Go.Deep
set_option linter.unusedVariables false

theorem cellsMoment : Tryd.prog.cellsOf 32 = 6 := by kernel_rfl
theorem cellsOne : Tryd.prog.cellsOf 3 = 1 := by kernel_rfl

theorem open_moment {H : Type} {enc : TypeId × Value → H} {W : World} {base : Nat} {v : Value} {d : DataW H} {p : List MemPlace} (hv : Value.okWide Tryd.prog W .any base 32 v) (h : DataW.Trod enc Tryd.prog W 0 (fun _ => true) true 32 v d p) :
    ∃ a b c e f g : Int, v = moment a b c e f g ∧ d = .agg [.lit (.int .i64 a), .lit (.int .i64 b), .lit (.int .i64 c), .lit (.int .i64 e), .lit (.int .i64 f), .lit (.int .i64 g)] ∧ p = [] ∧
      ((Lit.int .i64 a).wf = true ∧ (Lit.int .i64 b).wf = true ∧ (Lit.int .i64 c).wf = true ∧ (Lit.int .i64 e).wf = true ∧ (Lit.int .i64 f).wf = true ∧ (Lit.int .i64 g).wf = true) := by
  obtain ⟨cs, rfl, hsz⟩ := okWide_struct Tryd.underlying32 hv
  obtain ⟨l⟩ := cs
  match l, hsz.trans cellsMoment with
  | [c0, c1, c2, c3, c4, c5], _ =>
    obtain ⟨fuel, hf⟩ := h
    obtain ⟨xs, n, _, hx, _, hlen, hg⟩ := DataW.trod_struct Tryd.underlying32 hf
    match xs, hlen with
    | [y0, y1, y2, y3, y4, y5], _ =>
      have ho := cellsOne
      have g0 := hg 0 _ rfl
      have g1 := hg 1 _ rfl
      have g2 := hg 2 _ rfl
      have g3 := hg 3 _ rfl
      have g4 := hg 4 _ rfl
      have g5 := hg 5 _ rfl
      simp only [List.getElem_toArray, List.getElem_cons_zero, List.getElem_cons_succ, ho, Value.cells] at g0 g1 g2 g3 g4 g5
      obtain ⟨a, e0, r0, w0⟩ := DataW.trod_int Tryd.underlying3 g0
      obtain ⟨b, e1, r1, w1⟩ := DataW.trod_int Tryd.underlying3 g1
      obtain ⟨c, e2, r2, w2⟩ := DataW.trod_int Tryd.underlying3 g2
      obtain ⟨e, e3, r3, w3⟩ := DataW.trod_int Tryd.underlying3 g3
      obtain ⟨f, e4, r4, w4⟩ := DataW.trod_int Tryd.underlying3 g4
      obtain ⟨g, e5, r5, w5⟩ := DataW.trod_int Tryd.underlying3 g5
      simp at e0 e1 e2 e3 e4 e5
      subst e0 e1 e2 e3 e4 e5 r0 r1 r2 r3 r4 r5
      simp only [Prod.mk.injEq] at hx
      exact ⟨a, b, c, e, f, g, rfl, hx.1, hx.2, w0, w1, w2, w3, w4, w5⟩

theorem shut_moment {H : Type} {enc : TypeId × Value → H} {W : World} {a b c e f g : Int}
    (w : (Lit.int .i64 a).wf = true ∧ (Lit.int .i64 b).wf = true ∧ (Lit.int .i64 c).wf = true ∧ (Lit.int .i64 e).wf = true ∧ (Lit.int .i64 f).wf = true ∧ (Lit.int .i64 g).wf = true) {B : Nat} {spare : Nat → Bool} {held : Bool} :
    DataW.Trod enc Tryd.prog W B spare held 32 (moment a b c e f g) (.agg [.lit (.int .i64 a), .lit (.int .i64 b), .lit (.int .i64 c), .lit (.int .i64 e), .lit (.int .i64 f), .lit (.int .i64 g)]) [] := by
  obtain ⟨w0, w1, w2, w3, w4, w5⟩ := w
  have ho := cellsOne
  have t : ∀ x : Int, (Lit.int .i64 x).wf = true → DataW.trod enc Tryd.prog W B spare held 1 3 [.int .i64 x] = some (.lit (.int .i64 x), []) := fun x hx => trod_int_mk 0 Tryd.underlying3 hx
  refine ⟨2, ?_⟩
  have h := trod_struct_mk (enc := enc) (w := W) (base := B) (spare := spare) (held := held) (n := 1) (cs := [.int .i64 a, .int .i64 b, .int .i64 c, .int .i64 e, .int .i64 f, .int .i64 g])
    (xs := [(.lit (.int .i64 a), []), (.lit (.int .i64 b), []), (.lit (.int .i64 c), []), (.lit (.int .i64 e), []), (.lit (.int .i64 f), []), (.lit (.int .i64 g), [])]) Tryd.underlying32 (by rw [cellsMoment]; rfl)
    (by simp [ho, t a w0, t b w1, t c w2, t e w3, t f w4, t g w5])
  simpa [Value.cells] using h
end Go.Proofs.YtinapfnhnakcjaaDoor

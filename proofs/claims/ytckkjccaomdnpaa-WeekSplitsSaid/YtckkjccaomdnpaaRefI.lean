/-
  Contracts of the document's numbers: powers of 2, quotients held.
-/
import Derived.Test.YtckkjccaomdnpaaRefH
namespace Go.Proofs.Ytckkjccaomdnpaa
open Go.RowKit
set_option linter.unusedVariables false

/-- What a call tells that makes a number, noughts at the top let in. -/
def TellsL (w : World) (n : Int) (L : Nat) (e : Ending) (w' : World) : Prop := ∃ v, e = .returned v ∧ Num w' v n L ∧ Grew w w'

theorem Row.one (k : IntKind) (w : World) (E : TypeId) (x : Nat) : Row k (w.alloc (.cells #[.int k (x : Nat)] E)) (.slice (some ⟨w.heap.size, 0, none⟩) 1 1) [x] := by
  refine ⟨_, 1, rfl, by simp, fun _ => ⟨w.heap.size, 0, rfl, by simp, fun i hi => ?_⟩⟩
  obtain rfl : i = 0 := by simp at hi; omega
  simp [wd]
theorem one_row (w : World) (o : Obj) (E : TypeId) : ∃ zs, Row .u64 ((w.alloc o).alloc (.cells #[.int .u64 1] E)) (.slice (some ⟨w.heap.size + 1, 0, none⟩) 1 1) zs ∧ Words zs ∧ val zs = 1 ∧ zs.length = 1 := by
  refine ⟨[1], ?_, fun i => ?_, by simp [val, sumTo, wd], rfl⟩
  · have := Row.one .u64 (w.alloc o) E 1
    rw [World.size_alloc] at this
    exact this
  · unfold wd; match i with
    | 0 => simp
    | i + 1 => simp
theorem Num.set {w : World} {v : Value} {n : Int} {L : Nat} (h : Num w v n L) {p : Addr} {u x : Value} (hp : w.cell? p = some u) (hu : ∀ k m, u ≠ .int k m) : Num (w.setCell p x) v n L := by
  obtain ⟨sl, xs, h1, h2, h3⟩ := h; exact ⟨sl, xs, h1, h2.set hp hu, h3⟩

end Go.Proofs.Ytckkjccaomdnpaa

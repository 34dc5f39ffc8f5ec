/-
  Calls that write into some blocks of their own, and make new ones: all else stays.
-/
import Derived.Test.YtkijonnbngnliaaRowK
namespace Go.Proofs.Ytkijonnbngnliaa
open Go.RowKit
set_option linter.unusedVariables false

/-- Of what was there, the blocks outside F are as they were. -/
structure Far (F : Nat → Prop) (w w' : World) : Prop where
  os : w'.os = w.os
  tape : w'.tape = w.tape
  output : w'.output = w.output
  size : w.heap.size ≤ w'.heap.size
  block : ∀ k, k < w.heap.size → ¬ F k → w'.heap[k]? = w.heap[k]?

section
variable {F G : Nat → Prop} {a b c w w' : World}
theorem Far.refl (F : Nat → Prop) (w : World) : Far F w w := ⟨rfl, rfl, rfl, Nat.le_refl _, fun _ _ _ => rfl⟩
theorem Far.trans (h : Far F a b) (k : Far F b c) : Far F a c :=
  ⟨k.os.trans h.os, k.tape.trans h.tape, k.output.trans h.output, Nat.le_trans h.size k.size, fun i hi hF => (k.block i (Nat.lt_of_lt_of_le hi h.size) hF).trans (h.block i hi hF)⟩
theorem Far.mono (h : Far F w w') (hs : ∀ k, k < w.heap.size → F k → G k) : Far G w w' :=
  ⟨h.os, h.tape, h.output, h.size, fun i hi hG => h.block i hi (fun hF => hG (hs i hi hF))⟩
theorem Far.of_grew (h : Grew w w') : Far F w w' := ⟨h.below.os, h.below.tape, h.below.output, h.size, fun i hi _ => h.below.block i hi⟩
/-- What is written was made behind the world a. -/
theorem Far.grew (h : Far F w w') (g : Grew a w) (hF : ∀ k, F k → a.heap.size ≤ k) : Grew a w' :=
  ⟨h.os.trans g.below.os, h.tape.trans g.below.tape, h.output.trans g.below.output, Nat.le_trans g.size h.size, fun i hi =>
    (h.block i (Nat.lt_of_lt_of_le hi g.size) (fun hf => by have := hF i hf; omega)).trans (g.below.block i hi)⟩
theorem Far.cell (h : Far F w w') {p : Addr} (hp : p.block < w.heap.size) (hF : ¬ F p.block) : w'.cell? p = w.cell? p := World.cell?_of_block (w := w) (h.block p.block hp hF)
theorem Far.frozen (h : Far F w w') {p : Addr} (hp : p.block < w.heap.size) (hF : ¬ F p.block) : w'.frozen? p = w.frozen? p := World.frozen?_of_block (w := w) (h.block p.block hp hF)
theorem Far.setCell (h : Far F a w) {p : Addr} (hp : F p.block) (u : Value) : Far F a (w.setCell p u) :=
  h.trans ⟨rfl, rfl, rfl, by simp [World.setCell], fun k _ hk => Below.heap_setCell _ _ _ _ (fun e => hk (e ▸ hp))⟩
/-- A store into one block. -/
theorem Far.one (w : World) (p : Addr) (u : Value) : Far (fun k => k = p.block) w (w.setCell p u) := Far.setCell (F := fun k => k = p.block) (Far.refl _ w) (p := p) rfl u

/-- What is written beyond F was made behind the first world. -/
theorem Far.beyond {G : Nat → Prop} {w0 : World} (h : Far F w0 w) (g : Far G w w') (hG : ∀ x, G x → F x ∨ w0.heap.size ≤ x) : Far F w0 w' :=
  ⟨g.os.trans h.os, g.tape.trans h.tape, g.output.trans h.output, Nat.le_trans h.size g.size, fun x hx hF => (g.block x (Nat.lt_of_lt_of_le hx h.size) (fun e => by rcases hG x e with h' | h'; · exact hF h'
                                                                                                                                                                    · omega)).trans (h.block x hx hF)⟩
/-- A row whose own block is not written. -/
theorem Row.far {k : IntKind} {v : Value} {ns : List Nat} (h : Row k w v ns) (g : Far F w w') (hF : ∀ b, v.ownBlock = some b → ¬ F b) : Row k w' v ns := by
  obtain ⟨A, cap, rfl, hc, hr⟩ := h
  refine ⟨A, cap, rfl, hc, fun hn => ?_⟩
  obtain ⟨b, o, rfl, hb, hcell⟩ := hr hn
  exact ⟨b, o, rfl, Nat.lt_of_lt_of_le hb g.size, fun i hi => (g.cell (p := ⟨b, o + i, none⟩) hb (hF b rfl)).trans (hcell i hi)⟩
theorem Own.far {B : Nat} {E : TypeId} {k : IntKind} {v : Value} {ns : List Nat} (h : Own B E k w v ns) (g : Far F w w') (hF : ∀ b, v.ownBlock = some b → ¬ F b) : Own B E k w' v ns := by
  obtain ⟨h1, h2⟩ := h
  refine ⟨h1, ?_⟩
  rcases h2 with h2 | ⟨b, cap, cur, e, hb, hh, r⟩
  · exact .inl h2
  · refine .inr ⟨b, cap, cur, e, hb, ?_, r⟩
    rw [g.block b (Array.getElem?_eq_some_iff.1 hh).1 (hF b (by rw [e]; rfl))]; exact hh
theorem Row.lt {k : IntKind} {v : Value} {ns : List Nat} (h : Row k w v ns) (hn : 0 < ns.length) : ∀ b, v.ownBlock = some b → b < w.heap.size := fun b hb => by
  obtain ⟨A, cap, rfl, _, hr⟩ := h
  obtain ⟨g, o, rfl, hg, _⟩ := hr hn
  simp only [Value.ownBlock, Option.some.injEq] at hb
  omega
end
theorem World.ownsRow.old {w : World} {B : Nat} {E : TypeId} {s n : Nat} {v : Value} {xs : List Value} (h : w.ownsRow B E s v n xs) : ∀ b, v.ownBlock = some b → B ≤ b ∧ b < w.heap.size := fun b hb => World.ownsRow.lt h b hb
end Go.Proofs.Ytkijonnbngnliaa

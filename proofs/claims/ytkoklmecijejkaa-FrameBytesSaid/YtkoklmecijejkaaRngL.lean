/-
  What the program's ring tells; the page's example out of it.
-/
import Derived.Test.YtkoklmecijejkaaRngS
import Derived.Test.YtkoklmecijejkaaSumM
import Derived.OwnWalk
namespace Go.Proofs.Ytkoklmecijejkaa
open Go.RowKit
set_option linter.unusedVariables false

/-- How many have no room; what is held behind a put. -/
def ringOver (size : Nat) (ns xs : List Nat) : Nat := ns.length + xs.length - size
def ringPut (size : Nat) (ns xs : List Nat) : List Nat := (ns ++ xs).drop (ringOver size ns xs)
theorem ringPut_length (size : Nat) (ns xs : List Nat) (h : ns.length ≤ size) : (ringPut size ns xs).length = min (ns.length + xs.length) size := by
  unfold ringPut ringOver; rw [List.length_drop, List.length_append]; omega

section
variable (R : World → Value → (Nat → Prop) → Nat → List Nat → Nat → Prop)
def RingNew (size : Nat) (w : World) (e : Ending) (w' : World) : Prop := ∃ g F, e = .returned (.tuple #[.pointer (some ⟨g, 0, none⟩), .int .i64 0]) ∧ R w' (.pointer (some ⟨g, 0, none⟩)) F size [] 0 ∧ (∀ b, F b → w.heap.size ≤ b) ∧ Grew w w'
def RingTurn (r : Int) (v : Value) (F : Nat → Prop) (size : Nat) (ms : List Nat) (lost : Nat) (w : World) (e : Ending) (w' : World) : Prop :=
  ∃ F', e = .returned (.int .i64 r) ∧ R w' v F' size ms lost ∧ (∀ b, F' b → F b ∨ w.heap.size ≤ b) ∧ Far F w w'
def RingCopied (size : Nat) (ns : List Nat) (lost : Nat) (w : World) (e : Ending) (w' : World) : Prop := ∃ g F, e = .returned (.pointer (some ⟨g, 0, none⟩)) ∧ R w' (.pointer (some ⟨g, 0, none⟩)) F size ns lost ∧ (∀ b, F b → w.heap.size ≤ b) ∧ Grew w w'

/-- R: a ring behind a pointer, in the blocks F; T: what the calls lean on in the world. -/
structure RingCalls (T : World → Prop) : Prop where
  keep : ∀ w w', T w → Grew w w' → T w'
  inv : ∀ w v F size ns lost, R w v F size ns lost → (64 ≤ size ∧ size ≤ 4096) ∧ ns.length ≤ size ∧ Bytes ns
  lt : ∀ w v F size ns lost b, R w v F size ns lost → F b → b < w.heap.size
  far : ∀ w w' v F G size ns lost, R w v F size ns lost → Far G w w' → (∀ b, F b → ¬ G b) → R w' v F size ns lost
  new : ∀ (size : Nat) w, 64 ≤ size → size ≤ 4096 → T w → Calls Try.prog 7 #[.int .i64 (size : Nat)] w (RingNew R size w)
  bad : ∀ (size : Int) w, (-9223372036854775808 ≤ size ∧ size ≤ 9223372036854775807) → (size < 64 ∨ 4096 < size) → T w → Calls Try.prog 7 #[.int .i64 size] w fun e w' => e = .returned (.tuple #[.pointer none, .int .i64 2]) ∧ Grew w w'
  put : ∀ w v F size ns lost b xs, R w v F size ns lost → Row .u8 w b xs → Bytes xs → xs.length ≤ 20000 → lost ≤ 1000000000 → (0 < xs.length → ∀ k, b.ownBlock = some k → ¬ F k) → T w →
    Calls Try.prog 9 #[v, b] w (RingTurn R (ringOver size ns xs : Nat) v F size (ringPut size ns xs) (lost + ringOver size ns xs) w)
  drop : ∀ w v F size ns lost n, R w v F size ns lost → (-9223372036854775808 ≤ n ∧ n ≤ 9223372036854775807) → T w →
    Calls Try.prog 22 #[v, .int .i64 n] w (RingTurn R (min n.toNat ns.length : Nat) v F size (ns.drop (min n.toNat ns.length)) lost w)
  len : ∀ w v F size ns lost, R w v F size ns lost → T w → Calls Try.prog 17 #[v] w fun e w' => e = .returned (.int .i64 (ns.length : Nat)) ∧ Grew w w'
  size : ∀ w v F size ns lost, R w v F size ns lost → T w → Calls Try.prog 39 #[v] w fun e w' => e = .returned (.int .i64 (size : Nat)) ∧ Grew w w'
  peek : ∀ w v F size ns lost n, R w v F size ns lost → (-9223372036854775808 ≤ n ∧ n ≤ 9223372036854775807) → T w → Calls Try.prog 14 #[v, .int .i64 n] w (Peeked (ns.take n.toNat) w)
  copy : ∀ w v F size ns lost, R w v F size ns lost → T w → Calls Try.prog 19 #[v] w (RingCopied R size ns lost w)
  nput : ∀ w b xs, Row .u8 w b xs → T w → Calls Try.prog 9 #[.pointer none, b] w fun e w' => e = .returned (.int .i64 0) ∧ Grew w w'
  ndrop : ∀ w n, (-9223372036854775808 ≤ n ∧ n ≤ 9223372036854775807) → T w → Calls Try.prog 22 #[.pointer none, .int .i64 n] w fun e w' => e = .returned (.int .i64 0) ∧ Grew w w'
  nlen : ∀ w, T w → Calls Try.prog 17 #[.pointer none] w fun e w' => e = .returned (.int .i64 0) ∧ Grew w w'
  nsize : ∀ w, T w → Calls Try.prog 39 #[.pointer none] w fun e w' => e = .returned (.int .i64 0) ∧ Grew w w'
  npeek : ∀ w n, (-9223372036854775808 ≤ n ∧ n ≤ 9223372036854775807) → T w → Calls Try.prog 14 #[.pointer none, .int .i64 n] w (Peeked [] w)
  ncopy : ∀ w, T w → Calls Try.prog 19 #[.pointer none] w fun e w' => e = .returned (.pointer none) ∧ Grew w w'
  nat : ∀ w i, (-9223372036854775808 ≤ i ∧ i ≤ 9223372036854775807) → T w → Calls Try.prog 38 #[.pointer none, .int .i64 i] w fun e w' => e = .returned (.tuple #[.int .u8 0, .bool false]) ∧ Grew w w'
  at_ : ∀ w v F size ns lost i, R w v F size ns lost → (-9223372036854775808 ≤ i ∧ i ≤ 9223372036854775807) → T w →
    Calls Try.prog 38 #[v, .int .i64 i] w fun e w' => e = .returned (.tuple #[.int .u8 (if 0 ≤ i ∧ i < ns.length then (wd ns i.toNat : Int) else 0), .bool (decide (0 ≤ i ∧ i < ns.length))]) ∧ Grew w w'
end

theorem RingCalls.grew {R : World → Value → (Nat → Prop) → Nat → List Nat → Nat → Prop} {T : World → Prop} (P : RingCalls R T) {w w' : World} {v : Value} {F : Nat → Prop} {size lost : Nat} {ns : List Nat} (h : R w v F size ns lost) (g : Grew w w') : R w' v F size ns lost :=
  P.far w w' v F (fun _ => False) size ns lost h (Far.of_grew g) (fun _ _ h => h)
theorem grew_made {w w' : World} (h : w.grownBy w' none) : Grew w w' := Below.grown (Below.refl _ _) h (Nat.le_refl _) (fun b hb => by cases hb)
theorem known_nums : ringOver 64 [] (List.replicate 60 0) = 0 ∧ ringPut 64 [] (List.replicate 60 0) = List.replicate 60 0 ∧ ringOver 64 (List.replicate 60 0) (List.replicate 10 0) = 6 ∧ ringPut 64 (List.replicate 60 0) (List.replicate 10 0) = List.replicate 64 0 := by decide +kernel
theorem replicate_bytes (n : Nat) : Bytes (List.replicate n 0) := Bytes.of_mem (fun x hx => by rw [List.eq_of_mem_replicate hx]; omega)
theorem row_zeros {w : World} {B g n : Nat} {E : TypeId} (h : w.ownsRow B E 1 (.slice (some ⟨g, 0, none⟩) n n) n (madeCells (Value.int .u8 0).cells (n * 1)).toList) : Row .u8 w (.slice (some ⟨g, 0, none⟩) n n) (List.replicate n 0) := by
  refine ⟨_, n, by simp, by simp, fun hp => ⟨g, 0, rfl, (World.ownsRow.lt h g rfl).2, fun i hi => ?_⟩⟩
  simp only [List.length_replicate] at hi
  have := World.ownsRow.cellAt h i (by omega)
  rw [Nat.zero_add, this]
  simp [madeCells, wd, hi, Value.cells, Nat.mod_one]

end Go.Proofs.Ytkoklmecijejkaa

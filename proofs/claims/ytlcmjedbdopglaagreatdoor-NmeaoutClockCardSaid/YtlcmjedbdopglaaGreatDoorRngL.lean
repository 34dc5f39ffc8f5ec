/-
  The document's ring: a list behind a pointer.
  The document's ring: its first bytes, some gone, another one.
  What the program's ring tells; the page's example out of it.
-/
import Derived.Test.YtlcmjedbdopglaaGreatDoorFar
import Derived.Test.YtlcmjedbdopglaaGreatDoorSumM
import Derived.Deep.RegionHeld3
import Derived.OwnWalk
namespace Go.Proofs.YtlcmjedbdopglaaGreatDoor
open Go.RowKit
set_option linter.unusedVariables false

/- The document's ring: a list behind a pointer. -/
/-- The document's ring in block g: its size, its bytes, how many were lost. -/
structure RefAt (w : World) (g size : Nat) (L : Value) (ns : List Nat) (lost : Nat) : Prop where
  lt : g < w.heap.size
  c0 : w.cell? ⟨g, 0, none⟩ = some (.int .i64 size)
  c1 : w.cell? ⟨g, 1, none⟩ = some L
  c2 : w.cell? ⟨g, 2, none⟩ = some (.int .i64 lost)
  f1 : w.frozen? ⟨g, 1, none⟩ = false
  f2 : w.frozen? ⟨g, 2, none⟩ = false
  row : Row .u8 w L ns
  own : ∀ b, L.ownBlock = some b → b < w.heap.size ∧ b ≠ g
theorem RefAt.far {F : Nat → Prop} {w w' : World} {g size : Nat} {L : Value} {ns : List Nat} {lost : Nat} (h : RefAt w g size L ns lost) (k : Far F w w') (hg : ¬ F g) (hL : ∀ b, L.ownBlock = some b → ¬ F b) : RefAt w' g size L ns lost :=
  ⟨Nat.lt_of_lt_of_le h.lt k.size, (k.cell (p := ⟨g, 0, none⟩) h.lt hg).trans h.c0, (k.cell (p := ⟨g, 1, none⟩) h.lt hg).trans h.c1, (k.cell (p := ⟨g, 2, none⟩) h.lt hg).trans h.c2,
   (k.frozen (p := ⟨g, 1, none⟩) h.lt hg).trans h.f1, (k.frozen (p := ⟨g, 2, none⟩) h.lt hg).trans h.f2, h.row.far k hL, fun b hb => ⟨Nat.lt_of_lt_of_le (h.own b hb).1 k.size, (h.own b hb).2⟩⟩
theorem RefAt.grew {w w' : World} {g size : Nat} {L : Value} {ns : List Nat} {lost : Nat} (h : RefAt w g size L ns lost) (k : Grew w w') : RefAt w' g size L ns lost := h.far (F := fun _ => False) (Far.of_grew k) (fun h => h) (fun _ _ h => h)

theorem refAt_put {w2 : World} {g size : Nat} {L L' : Value} {lost' : Nat} {ms : List Nat} {x y : Int} (lt : g < w2.heap.size) (e0 : w2.cell? ⟨g, 0, none⟩ = some (.int .i64 size)) (e1 : w2.cell? ⟨g, 1, none⟩ = some L) (e2 : w2.cell? ⟨g, 2, none⟩ = some (.int .i64 y))
    (q1 : w2.frozen? ⟨g, 1, none⟩ = false) (q2 : w2.frozen? ⟨g, 2, none⟩ = false) (hrow : Row .u8 w2 L' ms) (hown : ∀ b, L'.ownBlock = some b → b < w2.heap.size ∧ b ≠ g) (hx : x = ((lost' : Nat) : Int)) :
    RefAt ((w2.setCell ⟨g, 1, none⟩ L').setCell ⟨g, 2, none⟩ (.int .i64 x)) g size L' ms lost' := by
  subst hx
  have ne : ∀ {i j : Nat}, i ≠ j → (⟨g, i, none⟩ : Addr) ≠ ⟨g, j, none⟩ := fun hj e => hj (by injection e)
  have F1 := Far.one w2 ⟨g, 1, none⟩ L'
  have F2 := Far.one (w2.setCell ⟨g, 1, none⟩ L') ⟨g, 2, none⟩ (.int .i64 (lost' : Nat))
  have s2 := (World.cell?_setCell_other w2 ⟨g, 1, none⟩ ⟨g, 2, none⟩ L' (ne (by omega))).trans e2
  refine ⟨by simpa [World.setCell] using lt, ?_, ?_, World.cell?_setCell_same _ _ _ s2, by simpa [go_sem] using q1, by simpa [go_sem] using q2, (hrow.far F1 (fun b hb => (hown b hb).2)).far F2 (fun b hb => (hown b hb).2), fun b hb => ⟨by simpa [World.setCell] using (hown b hb).1, (hown b hb).2⟩⟩
  · rw [World.cell?_setCell_other _ _ _ _ (ne (by omega)), World.cell?_setCell_other _ _ _ _ (ne (by omega))]; exact e0
  · rw [World.cell?_setCell_other _ _ _ _ (ne (by omega))]; exact World.cell?_setCell_same _ _ _ e1
theorem far_put {w w2 : World} {g : Nat} {u v : Value} (D : Grew w w2) : Far (fun k => k = g) w ((w2.setCell ⟨g, 1, none⟩ u).setCell ⟨g, 2, none⟩ v) :=
  Far.setCell (F := fun k => k = g) (Far.setCell (F := fun k => k = g) (Far.of_grew D) (p := ⟨g, 1, none⟩) rfl u) (p := ⟨g, 2, none⟩) rfl v

def RefPut (g size : Nat) (ns xs : List Nat) (lost : Nat) (w : World) (e : Ending) (w' : World) : Prop :=
  ∃ L, e = .returned (.int .i64 ((ns.length + xs.length - size : Nat) : Int)) ∧ RefAt w' g size L ((ns ++ xs).drop (ns.length + xs.length - size)) (lost + (ns.length + xs.length - size)) ∧ (∀ b, L.ownBlock = some b → w.heap.size ≤ b) ∧ Far (fun k => k = g) w w'

/- The document's ring: its first bytes, some gone, another one. -/
/-- Bytes in memory of their own, that may be written over. -/
def Peeked (ms : List Nat) (w : World) (e : Ending) (w' : World) : Prop := ∃ v, e = .returned v ∧ Own w.heap.size 5 .u8 w' v ms ∧ Grew w w'


theorem ownBlock_map (A : Option Addr) (m n c n' c' : Nat) : (Value.slice (A.map fun x => x.add m) n c).ownBlock = (Value.slice A n' c').ownBlock := by
  cases A with
  | none => rfl
  | some a => simp only [Option.map, Value.ownBlock]; unfold Addr.add; split <;> rfl
theorem ownBlock_same (A : Option Addr) (n c n' c' : Nat) : (Value.slice A n c).ownBlock = (Value.slice A n' c').ownBlock := by cases A <;> rfl
theorem refAt_one {w2 : World} {g size lost : Nat} {L L' : Value} {ns ms : List Nat} (h : RefAt w2 g size L ns lost) (hrow : Row .u8 w2 L' ms) (hown : L'.ownBlock = L.ownBlock) : RefAt (w2.setCell ⟨g, 1, none⟩ L') g size L' ms lost := by
  have ne : ∀ {i j : Nat}, i ≠ j → (⟨g, i, none⟩ : Addr) ≠ ⟨g, j, none⟩ := fun hj e => hj (by injection e)
  have F1 := Far.one w2 ⟨g, 1, none⟩ L'
  refine ⟨by simpa [World.setCell] using h.lt, ?_, World.cell?_setCell_same _ _ _ h.c1, ?_, by simpa [go_sem] using h.f1, by simpa [go_sem] using h.f2, hrow.far F1 (fun b hb => (h.own b (hown ▸ hb)).2), fun b hb => ⟨by simpa [World.setCell] using (h.own b (hown ▸ hb)).1, (h.own b (hown ▸ hb)).2⟩⟩
  · rw [World.cell?_setCell_other _ _ _ _ (ne (by omega))]; exact h.c0
  · rw [World.cell?_setCell_other _ _ _ _ (ne (by omega))]; exact h.c2

def RefDrop (g size : Nat) (L0 : Value) (ns : List Nat) (lost n : Nat) (w : World) (e : Ending) (w' : World) : Prop :=
  ∃ L, e = .returned (.int .i64 ((min n ns.length : Nat) : Int)) ∧ RefAt w' g size L (ns.drop (min n ns.length)) lost ∧ L.ownBlock = L0.ownBlock ∧ Far (fun k => k = g) w w'


def RefCopy (size : Nat) (ns : List Nat) (lost : Nat) (w : World) (e : Ending) (w' : World) : Prop :=
  ∃ g L, e = .returned (.pointer (some ⟨g, 0, none⟩)) ∧ RefAt w' g size L ns lost ∧ w.heap.size ≤ g ∧ (∀ b, L.ownBlock = some b → w.heap.size ≤ b) ∧ Grew w w'

/- What the program's ring tells; the page's example out of it. -/
/-- How many have no room; what is held behind a put. -/
def ringOver (size : Nat) (ns xs : List Nat) : Nat := ns.length + xs.length - size
def ringPut (size : Nat) (ns xs : List Nat) : List Nat := (ns ++ xs).drop (ringOver size ns xs)
theorem ringPut_length (size : Nat) (ns xs : List Nat) (h : ns.length ≤ size) : (ringPut size ns xs).length = min (ns.length + xs.length) size := by
  unfold ringPut ringOver; rw [List.length_drop, List.length_append]; omega

section
variable (R : World → Value → (Nat → Prop) → Nat → List Nat → Nat → Prop)
def RingNew (size : Nat) (w : World) (e : Ending) (w' : World) : Prop := ∃ g F, e = .returned (.tuple #[.pointer (some ⟨g, 0, none⟩), .int .i64 0]) ∧ R w' (.pointer (some ⟨g, 0, none⟩)) F size [] 0 ∧ (∀ b, F b → w.heap.size ≤ b) ∧ Grew w w'
def RingTurn (r : Int) (v : Value) (F : Nat → Prop) (size : Nat) (ms : List Nat) (lost : Nat) (w : World) (e : Ending) (w' : World) : Prop :=
  ∃ F', e = .returned (.int .i64 r) ∧ R w' v F' size ms lost ∧ (∀ b, F' b → F b ∨ w.heap.size ≤ b) ∧ Far F w w'
def RingCopied (size : Nat) (ns : List Nat) (lost : Nat) (w : World) (e : Ending) (w' : World) : Prop := ∃ g F, e = .returned (.pointer (some ⟨g, 0, none⟩)) ∧ R w' (.pointer (some ⟨g, 0, none⟩)) F size ns lost ∧ (∀ b, F b → w.heap.size ≤ b) ∧ Grew w w'

/-- R: a ring behind a pointer, in the blocks F; T: what the calls lean on in the world. -/
structure RingCalls (T : World → Prop) : Prop where
  keep : ∀ w w', T w → Grew w w' → T w'
  inv : ∀ w v F size ns lost, R w v F size ns lost → (64 ≤ size ∧ size ≤ 4096) ∧ ns.length ≤ size ∧ Bytes ns
  lt : ∀ w v F size ns lost b, R w v F size ns lost → F b → b < w.heap.size
  far : ∀ w w' v F G size ns lost, R w v F size ns lost → Far G w w' → (∀ b, F b → ¬ G b) → R w' v F size ns lost
  new : ∀ (size : Nat) w, 64 ≤ size → size ≤ 4096 → T w → Calls Tryz.prog 15 #[.int .i64 (size : Nat)] w (RingNew R size w)
  bad : ∀ (size : Int) w, (-9223372036854775808 ≤ size ∧ size ≤ 9223372036854775807) → (size < 64 ∨ 4096 < size) → T w → Calls Tryz.prog 15 #[.int .i64 size] w fun e w' => e = .returned (.tuple #[.pointer none, .int .i64 2]) ∧ Grew w w'
  put : ∀ w v F size ns lost b xs, R w v F size ns lost → Row .u8 w b xs → Bytes xs → xs.length ≤ 20000 → lost ≤ 1000000000 → (0 < xs.length → ∀ k, b.ownBlock = some k → ¬ F k) → T w →
    Calls Tryz.prog 16 #[v, b] w (RingTurn R (ringOver size ns xs : Nat) v F size (ringPut size ns xs) (lost + ringOver size ns xs) w)
  drop : ∀ w v F size ns lost n, R w v F size ns lost → (-9223372036854775808 ≤ n ∧ n ≤ 9223372036854775807) → T w →
    Calls Tryz.prog 31 #[v, .int .i64 n] w (RingTurn R (min n.toNat ns.length : Nat) v F size (ns.drop (min n.toNat ns.length)) lost w)
  len : ∀ w v F size ns lost, R w v F size ns lost → T w → Calls Tryz.prog 18 #[v] w fun e w' => e = .returned (.int .i64 (ns.length : Nat)) ∧ Grew w w'
  size : ∀ w v F size ns lost, R w v F size ns lost → T w → Calls Tryz.prog 53 #[v] w fun e w' => e = .returned (.int .i64 (size : Nat)) ∧ Grew w w'
  nput : ∀ w b xs, Row .u8 w b xs → T w → Calls Tryz.prog 16 #[.pointer none, b] w fun e w' => e = .returned (.int .i64 0) ∧ Grew w w'
  ndrop : ∀ w n, (-9223372036854775808 ≤ n ∧ n ≤ 9223372036854775807) → T w → Calls Tryz.prog 31 #[.pointer none, .int .i64 n] w fun e w' => e = .returned (.int .i64 0) ∧ Grew w w'
  nlen : ∀ w, T w → Calls Tryz.prog 18 #[.pointer none] w fun e w' => e = .returned (.int .i64 0) ∧ Grew w w'
  nsize : ∀ w, T w → Calls Tryz.prog 53 #[.pointer none] w fun e w' => e = .returned (.int .i64 0) ∧ Grew w w'
  nat : ∀ w i, (-9223372036854775808 ≤ i ∧ i ≤ 9223372036854775807) → T w → Calls Tryz.prog 52 #[.pointer none, .int .i64 i] w fun e w' => e = .returned (.tuple #[.int .u8 0, .bool false]) ∧ Grew w w'
  at_ : ∀ w v F size ns lost i, R w v F size ns lost → (-9223372036854775808 ≤ i ∧ i ≤ 9223372036854775807) → T w →
    Calls Tryz.prog 52 #[v, .int .i64 i] w fun e w' => e = .returned (.tuple #[.int .u8 (if 0 ≤ i ∧ i < ns.length then (wd ns i.toNat : Int) else 0), .bool (decide (0 ≤ i ∧ i < ns.length))]) ∧ Grew w w'
end

theorem RingCalls.grew {R : World → Value → (Nat → Prop) → Nat → List Nat → Nat → Prop} {T : World → Prop} (P : RingCalls R T) {w w' : World} {v : Value} {F : Nat → Prop} {size lost : Nat} {ns : List Nat} (h : R w v F size ns lost) (g : Grew w w') : R w' v F size ns lost :=
  P.far w w' v F (fun _ => False) size ns lost h (Far.of_grew g) (fun _ _ h => h)
theorem grew_made {w w' : World} (h : w.grownBy w' none) : Grew w w' := Below.grown (Below.refl _ _) h (Nat.le_refl _) (fun b hb => by cases hb)
theorem known_nums : ringOver 64 [] (List.replicate 60 0) = 0 ∧ ringPut 64 [] (List.replicate 60 0) = List.replicate 60 0 ∧ ringOver 64 (List.replicate 60 0) (List.replicate 10 0) = 6 ∧ ringPut 64 (List.replicate 60 0) (List.replicate 10 0) = List.replicate 64 0 := by decide +kernel
theorem replicate_bytes (n : Nat) : Bytes (List.replicate n 0) := Bytes.of_mem (fun x hx => by rw [List.eq_of_mem_replicate hx]; omega)
theorem row_zeros {w : World} {B g n : Nat} {E : TypeId} (h : w.ownsRow B E 1 (.slice (some ⟨g, 0, none⟩) n n) n (madeCells (Value.int .u8 0).cells (n * 1)).toList) : Row .u8 w (.slice (some ⟨g, 0, none⟩) n n) (List.replicate n 0) := by
  refine ⟨_, n, by simp, by simp, fun hp => ⟨g, 0, rfl, (World.ownsRow.lt h g rfl).2, fun i hi => ?_⟩⟩
  simp only [List.length_replicate] at hi
  have := World.ownsRow.cellAt h i (by omega)
  rw [Nat.zero_add, this]
  simp [madeCells, wd, hi, Value.cells, Nat.mod_one]

end Go.Proofs.YtlcmjedbdopglaaGreatDoor

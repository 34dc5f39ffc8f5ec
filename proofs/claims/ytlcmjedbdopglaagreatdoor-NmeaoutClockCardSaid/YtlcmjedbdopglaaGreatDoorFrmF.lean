/-
  The document's frames: what bytes begin.
  The document's frames: what bytes begin, whose length is there.
  The document's frames: what bytes begin, whose length is there, of the other kind.
  The document's frames: what bytes begin, of a sentence.
  The document's frames: what stands at a ring's begin.
-/
import Derived.Test.YtlcmjedbdopglaaGreatDoorFrmS
import Derived.Deep.DeepCutAuto
import Derived.Deep.RegionLaw
import Derived.Deep.RegionWith
namespace Go.Proofs.YtlcmjedbdopglaaGreatDoor
open Go.RowKit
set_option linter.unusedVariables false

/- The document's frames: what bytes begin. -/
def BodyTells (size : Nat) (L : List Nat) (w : World) (e : Ending) (w' : World) : Prop :=
  ∃ A n c, e = .returned (.tuple #[.agg #[.int .u8 ((bodyOf size L).1 : Nat), .slice A n c], .bool (bodyOf size L).2.2.1, .bool (bodyOf size L).2.2.2]) ∧ ((bodyOf size L).2.2.2 = false → Own w.heap.size 5 .u8 w' (.slice A n c) (bodyOf size L).2.1) ∧ Grew w w'
theorem bodyTells_of {size : Nat} {L : List Nat} {w w' : World} (k : Nat) (ns : List Nat) (t r : Bool) (h : bodyOf size L = (k, ns, t, r)) (fv : Value) (ho : r = false → Own w.heap.size 5 .u8 w' fv ns) (g : Grew w w') (hv : ∃ A n c, fv = .slice A n c := by exact ⟨_, _, _, rfl⟩) :
    BodyTells size L w (.returned (.tuple #[.agg #[.int .u8 k, fv], .bool t, .bool r])) w' := by
  obtain ⟨A, n, c, rfl⟩ := hv
  refine ⟨A, n, c, ?_, ?_, g⟩
  · rw [h]
  · rw [h]; exact ho


/-- The answer's variable and the frame's, that a call has made. -/
structure Begun (w wr : World) (k : Nat) (v : Value) : Prop where
  g : Grew w wr
  sz : w.heap.size + 2 ≤ wr.heap.size
  r0 : wr.cell? ⟨w.heap.size, 0, none⟩ = some (.int .u8 0)
  r1 : wr.cell? ⟨w.heap.size, 1, none⟩ = some (.slice none 0 0)
  fr0 : wr.frozen? ⟨w.heap.size, 0, none⟩ = false
  fr1 : wr.frozen? ⟨w.heap.size, 1, none⟩ = false
  f0 : wr.cell? ⟨w.heap.size + 1, 0, none⟩ = some (.int .u8 (k : Nat))
  f1 : wr.cell? ⟨w.heap.size + 1, 1, none⟩ = some v
  ff0 : wr.frozen? ⟨w.heap.size + 1, 0, none⟩ = false
  ff1 : wr.frozen? ⟨w.heap.size + 1, 1, none⟩ = false
theorem Begun.new (w : World) (E : TypeId) : Begun w ((w.alloc (.cells #[.int .u8 0, .slice none 0 0] E)).alloc (.cells #[.int .u8 0, .slice none 0 0] E)) 0 (.slice none 0 0) := by
  refine ⟨((Grew.refl w).alloc _).alloc _, by simp, ?_, ?_, ?_, ?_, ?_, ?_, ?_, ?_⟩ <;> simp [go_sem]
theorem Begun.newK (w : World) (E : TypeId) (k : Nat) : Begun w ((w.alloc (.cells #[.int .u8 0, .slice none 0 0] E)).alloc (.cells #[.int .u8 (k : Nat), .slice none 0 0] E)) k (.slice none 0 0) := by
  refine ⟨((Grew.refl w).alloc _).alloc _, by simp, ?_, ?_, ?_, ?_, ?_, ?_, ?_, ?_⟩ <;> simp [go_sem]
theorem Begun.grow {w wr w' : World} {k : Nat} {v : Value} (h : Begun w wr k v) (D : Below (w.heap.size + 2) wr w') : Begun w w' k v := by
  have c : ∀ b j, b < w.heap.size + 2 → w'.cell? ⟨b, j, none⟩ = wr.cell? ⟨b, j, none⟩ := fun b j hb => World.cell?_of_block (w := wr) (D.block b hb)
  have f : ∀ b j, b < w.heap.size + 2 → w'.frozen? ⟨b, j, none⟩ = wr.frozen? ⟨b, j, none⟩ := fun b j hb => World.frozen?_of_block (w := wr) (D.block b hb)
  exact ⟨Below.trans h.g (Below.mono D (by omega)), Nat.le_trans h.sz D.size, (c _ _ (by omega)).trans h.r0, (c _ _ (by omega)).trans h.r1, (f _ _ (by omega)).trans h.fr0, (f _ _ (by omega)).trans h.fr1,
    (c _ _ (by omega)).trans h.f0, (c _ _ (by omega)).trans h.f1, (f _ _ (by omega)).trans h.ff0, (f _ _ (by omega)).trans h.ff1⟩
theorem Begun.kind {w wr : World} {k : Nat} {v : Value} (h : Begun w wr k v) (k' : Nat) : Begun w (wr.setCell ⟨w.heap.size + 1, 0, none⟩ (.int .u8 (k' : Nat))) k' v := by
  have o : ∀ {b j : Nat}, ¬ (b = w.heap.size + 1 ∧ j = 0) → (⟨w.heap.size + 1, 0, none⟩ : Addr) ≠ ⟨b, j, none⟩ := fun hn e => hn (by injection e with e1 e2; exact ⟨e1.symm, e2.symm⟩)
  refine ⟨h.g.setCell (by show _ ≤ w.heap.size + 1; omega) _, by simpa [World.setCell] using h.sz, ?_, ?_, by simpa [go_sem] using h.fr0, by simpa [go_sem] using h.fr1, World.cell?_setCell_same _ _ _ h.f0, ?_, by simpa [go_sem] using h.ff0, by simpa [go_sem] using h.ff1⟩
  · rw [World.cell?_setCell_other _ _ _ _ (o (by omega))]; exact h.r0
  · rw [World.cell?_setCell_other _ _ _ _ (o (by omega))]; exact h.r1
  · rw [World.cell?_setCell_other _ _ _ _ (o (by omega))]; exact h.f1
theorem Begun.body {w wr : World} {k : Nat} {v : Value} (h : Begun w wr k v) (v' : Value) : Begun w (wr.setCell ⟨w.heap.size + 1, 1, none⟩ v') k v' := by
  have o : ∀ {b j : Nat}, ¬ (b = w.heap.size + 1 ∧ j = 1) → (⟨w.heap.size + 1, 1, none⟩ : Addr) ≠ ⟨b, j, none⟩ := fun hn e => hn (by injection e with e1 e2; exact ⟨e1.symm, e2.symm⟩)
  refine ⟨h.g.setCell (by show _ ≤ w.heap.size + 1; omega) _, by simpa [World.setCell] using h.sz, ?_, ?_, by simpa [go_sem] using h.fr0, by simpa [go_sem] using h.fr1, ?_, World.cell?_setCell_same _ _ _ h.f1, by simpa [go_sem] using h.ff0, by simpa [go_sem] using h.ff1⟩
  · rw [World.cell?_setCell_other _ _ _ _ (o (by omega))]; exact h.r0
  · rw [World.cell?_setCell_other _ _ _ _ (o (by omega))]; exact h.r1
  · rw [World.cell?_setCell_other _ _ _ _ (o (by omega))]; exact h.f0
/-- What is told: the frame goes into the answer's variable. -/
theorem Begun.told {w wr : World} {k : Nat} {v : Value} (h : Begun w wr k v) {size : Nat} {L : List Nat} (ns : List Nat) (t r : Bool) (hb : bodyOf size L = (k, ns, t, r)) (ho : r = false → Own (w.heap.size + 2) 5 .u8 wr v ns) (x y : Value) (hv : ∃ A n c, v = .slice A n c := by exact ⟨_, _, _, rfl⟩) :
    BodyTells size L w (.returned (.tuple #[.agg #[.int .u8 k, v], .bool t, .bool r])) ((wr.setCell ⟨w.heap.size, 0, none⟩ x).setCell ⟨w.heap.size, 1, none⟩ y) := by
  have G : Grew w ((wr.setCell ⟨w.heap.size, 0, none⟩ x).setCell ⟨w.heap.size, 1, none⟩ y) := (h.g.setCell (Nat.le_refl _) _).setCell (Nat.le_refl _) _
  refine bodyTells_of k ns t r hb v (fun hr => ?_) G hv
  have F : Far (fun b => b = w.heap.size) wr ((wr.setCell ⟨w.heap.size, 0, none⟩ x).setCell ⟨w.heap.size, 1, none⟩ y) := Far.setCell (F := fun b => b = w.heap.size) (Far.setCell (F := fun b => b = w.heap.size) (Far.refl _ wr) (p := ⟨w.heap.size, 0, none⟩) rfl x) (p := ⟨w.heap.size, 1, none⟩) rfl y
  refine own_base ((ho hr).far F (fun b hb e => ?_)) (Nat.le_add_right _ 2)
  have := World.ownsRow.lt (ho hr) b hb
  omega

theorem below_push {B : Nat} {a w w' : World} {E : TypeId} {k : IntKind} {v : Value} {ns : List Nat} (h : Below B a w) (ho : Own B E k w v ns) (hg : w.grownBy w' v.ownBlock) (hB : B ≤ w.heap.size) : Below B a w' :=
  Below.grown h hg hB (fun b hb => (World.ownsRow.lt ho b hb).1)
theorem run_take (L : List Nat) (t : Nat) (h : ∀ s, s < t → may (wd L (s + 1)) = true) (hl : t + 1 ≤ L.length) : ∃ rest, (L.drop 1).takeWhile may = (L.drop 1).take t ++ rest := by
  induction t generalizing L with
  | zero => exact ⟨(L.drop 1).takeWhile may, by simp⟩
  | succ t ih =>
    match L, hl with
    | x :: y :: L, hl =>
      have h0 := h 0 (by omega)
      obtain ⟨r, hr⟩ := ih (y :: L) (fun s hs => by have := h (s + 1) (by omega); simpa [wd] using this) (by simp at hl ⊢; omega)
      simp [wd] at h0
      exact ⟨r, by simp [h0] at hr ⊢; exact hr⟩
theorem run_stop (L : List Nat) (t : Nat) (h : ∀ s, s < t → may (wd L (s + 1)) = true) (hl : t + 1 ≤ L.length) (he : t + 1 = L.length ∨ may (wd L (t + 1)) = false) : (L.drop 1).takeWhile may = (L.drop 1).take t := by
  induction t generalizing L with
  | zero =>
    match L, hl with
    | [x], _ => simp
    | x :: y :: L, _ =>
      rcases he with he | he
      · simp at he
      · simp [wd] at he; simp [he]
  | succ t ih =>
    match L, hl with
    | x :: y :: L, hl =>
      have h0 := h 0 (by omega)
      have := ih (y :: L) (fun s hs => by have := h (s + 1) (by omega); simpa [wd] using this) (by simp at hl ⊢; omega) (by
        rcases he with he | he
        · left; simpa using he
        · right; simpa [wd] using he)
      simp [wd] at h0
      simp [h0] at this ⊢
      exact this
theorem drop_take_snoc (L : List Nat) (t : Nat) (h : t + 1 < L.length) : (L.drop 1).take (t + 1) = (L.drop 1).take t ++ [wd L (t + 1)] := by
  rw [List.take_add_one, List.getElem?_drop, Nat.add_comm 1 t, List.getElem?_eq_getElem h, wd_lt h]; rfl


def BeginTells (size : Nat) (L : List Nat) (w : World) (e : Ending) (w' : World) : Prop :=
  ∃ (k n : Nat) (A : Option Addr) (m c : Nat), e = .returned (.tuple #[.int .i64 ((standOf size L).1 : Nat), .agg #[.int .u8 k, .slice A m c], .int .i64 n]) ∧ k < 256 ∧ n ≤ 6000 ∧ ((standOf size L).1 = 1 → k = (standOf size L).2.1 ∧ n = (standOf size L).2.2.2 ∧ Own w.heap.size 5 .u8 w' (.slice A m c) (standOf size L).2.2.1) ∧ Grew w w'

theorem body_kind (size : Nat) (L : List Nat) : (bodyOf size L).1 < 256 := by
  unfold bodyOf
  repeat' split
  all_goals omega
theorem body_bytes {size : Nat} {L : List Nat} (hB : Bytes L) : Bytes (bodyOf size L).2.1 := by
  have hm : ∀ x ∈ L, x < 256 := fun x hx => by
    obtain ⟨i, hi, rfl⟩ := List.getElem_of_mem hx
    have := hB i
    rwa [wd_lt hi] at this
  refine Bytes.of_mem (fun x hx => ?_)
  unfold bodyOf at hx
  have ht : ∀ m, x ∈ (L.drop m).takeWhile may → x < 256 := fun m h => hm x (List.mem_of_mem_drop ((List.takeWhile_sublist _).mem h))
  have hd : ∀ m n, x ∈ (L.drop m).take n → x < 256 := fun m n h => hm x (List.mem_of_mem_drop (List.mem_of_mem_take h))
  repeat' split at hx
  all_goals (try (simp at hx; done))
  all_goals (try (exact ht _ hx))
  all_goals (try (exact hd _ _ hx))
  simp only [List.mem_cons] at hx
  rcases hx with rfl | rfl | hx
  · exact hB 2
  · exact hB 3
  · exact hd _ _ hx
theorem body_len {size : Nat} {L : List Nat} : (bodyOf size L).2.1.length ≤ L.length + 2 := by
  have ht : ((L.drop 1).takeWhile may).length ≤ L.length := Nat.le_trans (List.takeWhile_sublist _).length_le (by simp)
  unfold bodyOf
  repeat' split
  all_goals simp only [List.length_nil, List.length_cons, List.length_take, List.length_drop]
  all_goals omega
end Go.Proofs.YtlcmjedbdopglaaGreatDoor

/-
  The document's frames: what stands at a ring's begin, its walk.
  The document's frames: what is taken out next.
  The document's frames: are they the same?
-/
import Derived.Test.YtlcmjedbdopglaaGreatDoorFrmF
import Derived.Deep.RegionHeld3
import Derived.BigQuiet
import Derived.Deep.RegionHeldLaw
namespace Go.Proofs.YtlcmjedbdopglaaGreatDoor
open Go.RowKit
set_option linter.unusedVariables false

/- The document's frames: what stands at a ring's begin, its walk. -/
theorem stand_eq {size : Nat} {L : List Nat} (h0 : 0 < L.length) {k : Nat} {ns : List Nat} {t r : Bool} (hb : bodyOf size L = (k, ns, t, r)) :
    standOf size L = if r = true then (2, 0, [], 0) else if t = true ∧ common (frameBytes k ns) L = (frameBytes k ns).length then (1, k, ns, (frameBytes k ns).length) else if t = true ∧ common (frameBytes k ns) L < L.length then (2, 0, [], 0) else if L.length = size then (2, 0, [], 0) else (0, 0, [], 0) := by
  unfold standOf
  rw [if_neg (by omega), hb]
theorem row_cells {k : IntKind} {w : World} {A : Option Addr} {n c : Nat} {ns : List Nat} (h : Row k w (.slice A n c) ns) (hn : 0 < ns.length) : ∃ b o, A = some ⟨b, o, none⟩ ∧ b < w.heap.size ∧ ∀ i, i < ns.length → w.cell? ⟨b, o + i, none⟩ = some (.int k (wd ns i)) := by
  obtain ⟨A', c', e, _, hr⟩ := h
  cases e
  exact hr hn
theorem frame_len {k : Nat} {ns : List Nat} : (frameBytes k ns).length ≤ ns.length + 10 := by
  unfold frameBytes frameRow ubxRow
  repeat' split
  all_goals simp
  all_goals omega
theorem beginTells_no {size : Nat} {L : List Nat} {w w' : World} (st k : Nat) (A : Option Addr) (m c : Nat) (h : (standOf size L).1 = st) (h1 : st ≠ 1) (hk : k < 256) (g : Grew w w') : BeginTells size L w (.returned (.tuple #[.int .i64 (st : Nat), .agg #[.int .u8 k, .slice A m c], .int .i64 0])) w' :=
  ⟨k, 0, A, m, c, by rw [h]; rfl, hk, by omega, fun h' => absurd (h.symm.trans h') h1, g⟩

theorem with_fact08 {p q : Prop} (h : p) (k : p → q) : q := k h
/-- A frame's variable, new. -/
structure NewF (w : World) (b : Nat) : Prop where
  lt : b < w.heap.size
  c0 : w.cell? ⟨b, 0, none⟩ = some (.int .u8 0)
  c1 : w.cell? ⟨b, 1, none⟩ = some (.slice none 0 0)
  f0 : w.frozen? ⟨b, 0, none⟩ = false
  f1 : w.frozen? ⟨b, 1, none⟩ = false
theorem NewF.new (w : World) (E : TypeId) : NewF (w.alloc (.cells #[.int .u8 0, .slice none 0 0] E)) w.heap.size := by
  refine ⟨by simp, ?_, ?_, ?_, ?_⟩ <;> simp [go_sem]
theorem NewF.grew {w w' : World} {b : Nat} (h : NewF w b) (g : Grew w w') : NewF w' b :=
  ⟨Nat.lt_of_lt_of_le h.lt g.size, (g.cell (p := ⟨b, 0, none⟩) h.lt).trans h.c0, (g.cell (p := ⟨b, 1, none⟩) h.lt).trans h.c1, (g.frozen (p := ⟨b, 0, none⟩) h.lt).trans h.f0, (g.frozen (p := ⟨b, 1, none⟩) h.lt).trans h.f1⟩
theorem newF (w : World) (E : TypeId) : ∃ W, w.alloc (.cells #[.int .u8 0, .slice none 0 0] E) = W ∧ Grew w W ∧ NewF W w.heap.size ∧ W.heap.size = w.heap.size + 1 := ⟨_, rfl, (Grew.refl w).alloc _, NewF.new w E, by simp⟩
/-- A frame's variable that holds one. -/
structure HasF (W w : World) (b k : Nat) (v : Value) (ns : List Nat) (r : Bool) : Prop where
  g : Grew W w
  lo : W.heap.size ≤ b
  hi : b < w.heap.size
  c0 : w.cell? ⟨b, 0, none⟩ = some (.int .u8 (k : Nat))
  c1 : w.cell? ⟨b, 1, none⟩ = some v
  own : r = false → Own W.heap.size 5 .u8 w v ns
theorem HasF.grew {W w w' : World} {b k : Nat} {v : Value} {ns : List Nat} {r : Bool} (h : HasF W w b k v ns r) (g : Grew w w') : HasF W w' b k v ns r :=
  ⟨h.g.trans g, h.lo, Nat.lt_of_lt_of_le h.hi g.size, (g.cell (p := ⟨b, 0, none⟩) h.hi).trans h.c0, (g.cell (p := ⟨b, 1, none⟩) h.hi).trans h.c1, fun hr => (h.own hr).grew g⟩

theorem hasF_late {W w1 : World} {k : Nat} {A : Option Addr} {n c : Nat} {ns : List Nat} {r : Bool} (E : TypeId) (hg : Grew W w1) (ho : r = false → Own W.drew.heap.size 5 .u8 w1 (.slice A n c) ns) : HasF W (w1.alloc (.cells #[.int .u8 (k : Nat), .slice A n c] E)) w1.heap.size k (.slice A n c) ns r :=
  ⟨hg.alloc _, hg.size, by simp, by simp [go_sem], by simp [go_sem], fun hr => (ho hr).grew ((Grew.refl _).alloc _)⟩
theorem hasF_early {W w1 : World} {k : Nat} {A : Option Addr} {n c : Nat} {ns : List Nat} {r : Bool} {E : TypeId} (hg : Grew (W.alloc (.cells #[.int .u8 0, .slice none 0 0] E)).drew w1) (ho : r = false → Own (W.alloc (.cells #[.int .u8 0, .slice none 0 0] E)).drew.heap.size 5 .u8 w1 (.slice A n c) ns) : HasF W ((w1.setCell ⟨W.heap.size, 0, none⟩ (.int .u8 (k : Nat))).setCell ⟨W.heap.size, 1, none⟩ (.slice A n c)) W.heap.size k (.slice A n c) ns r := by
  have B := ((NewF.new W E).grew (Grew.refl _).drew).grew hg
  have gW : Grew W w1 := Grew.trans (((Grew.refl W).alloc _).drew) hg
  have ne : ∀ {i j : Nat}, i ≠ j → (⟨W.heap.size, i, none⟩ : Addr) ≠ ⟨W.heap.size, j, none⟩ := fun hj e => hj (by injection e)
  have F : Far (fun b => b = W.heap.size) w1 ((w1.setCell ⟨W.heap.size, 0, none⟩ (.int .u8 (k : Nat))).setCell ⟨W.heap.size, 1, none⟩ (.slice A n c)) := Far.setCell (F := fun b => b = W.heap.size) (Far.setCell (F := fun b => b = W.heap.size) (Far.refl _ w1) (p := ⟨W.heap.size, 0, none⟩) rfl _) (p := ⟨W.heap.size, 1, none⟩) rfl _
  have hs : (W.alloc (.cells #[.int .u8 0, .slice none 0 0] E)).drew.heap.size = W.heap.size + 1 := by simp [World.drew]
  refine ⟨(gW.setCell (Nat.le_refl _) _).setCell (Nat.le_refl _) _, Nat.le_refl _, by simpa [World.setCell] using B.lt, ?_, ?_, fun hr => ?_⟩
  · rw [World.cell?_setCell_other _ _ _ _ (ne (by omega))]; exact World.cell?_setCell_same _ _ _ B.c0
  · exact World.cell?_setCell_same _ _ _ ((World.cell?_setCell_other _ _ _ _ (ne (by omega))).trans B.c1)
  · have h := ho hr
    rw [hs] at h
    refine own_base (h.far F (fun b hb e => ?_)) (Nat.le_add_right _ 1)
    have := World.ownsRow.lt h b hb
    omega

theorem next_short {size : Nat} {M : List Nat} (h : (standOf size M).1 = 0) : nextOf size M = (none, 0, M) := by
  cases M with
  | nil => rfl
  | cons x M => unfold nextOf; rw [if_pos h]
theorem next_one {size : Nat} {M : List Nat} (h : (standOf size M).1 = 1) : nextOf size M = (some ((standOf size M).2.1, (standOf size M).2.2.1), 0, M.drop (standOf size M).2.2.2) ∧ (standOf size M).2.2.2 ≤ M.length := by
  cases M with
  | nil => simp [standOf] at h
  | cons x M =>
    refine ⟨by conv => lhs; unfold nextOf
               rw [if_neg (by omega), if_pos h], ?_⟩
    obtain ⟨k, ns, t, r, hb⟩ : ∃ k ns t r, bodyOf size (x :: M) = (k, ns, t, r) := ⟨_, _, _, _, rfl⟩
    have e := stand_eq (size := size) (L := x :: M) (by simp) hb
    have hc := common_le (frameBytes k ns) (x :: M)
    by_cases h1 : r = true
    · rw [if_pos h1] at e; rw [e] at h; simp at h
    · rw [if_neg h1] at e
      by_cases h2 : t = true ∧ common (frameBytes k ns) (x :: M) = (frameBytes k ns).length
      · rw [if_pos h2] at e; rw [e]; simp only; omega
      · rw [if_neg h2] at e
        split at e
        · rw [e] at h; simp at h
        · split at e <;> (rw [e] at h; simp at h)
theorem next_wrong {size : Nat} {M : List Nat} (h0 : (standOf size M).1 ≠ 0) (h1 : (standOf size M).1 ≠ 1) : nextOf size M = ((nextOf size (M.drop 1)).1, (nextOf size (M.drop 1)).2.1 + 1, (nextOf size (M.drop 1)).2.2) ∧ 0 < M.length := by
  cases M with
  | nil => simp [standOf] at h0
  | cons x M =>
    refine ⟨?_, by simp⟩
    conv => lhs; unfold nextOf
    rw [if_neg h0, if_neg h1]
    rfl
theorem Bytes.drop {L : List Nat} (h : Bytes L) (n : Nat) : Bytes (L.drop n) := by
  intro i
  have := h (n + i)
  simpa [wd, List.getD_eq_getElem?_getD, List.getElem?_drop] using this

/-- The frame that is told, where there is one; else the zero one. -/
def frameOf (o : Option (Nat × List Nat)) : Nat × List Nat := o.getD (0, [])
def RefNext (g size : Nat) (L0 : Value) (L : List Nat) (lost : Nat) (w : World) (e : Ending) (w' : World) : Prop :=
  ∃ fv Lv, e = .returned (.tuple #[.agg #[.int .u8 ((frameOf (nextOf size L).1).1 : Nat), fv], .bool (nextOf size L).1.isSome, .int .i64 ((nextOf size L).2.1 : Nat)]) ∧ Own w.heap.size 5 .u8 w' fv (frameOf (nextOf size L).1).2 ∧ (frameOf (nextOf size L).1).1 < 256 ∧
    RefAt w' g size Lv (nextOf size L).2.2 lost ∧ Lv.ownBlock = L0.ownBlock ∧ Far (fun k => k = g) w w'

theorem NewF.far {F : Nat → Prop} {w w' : World} {b : Nat} (h : NewF w b) (g : Far F w w') (hF : ¬ F b) : NewF w' b :=
  ⟨Nat.lt_of_lt_of_le h.lt g.size, (g.cell (p := ⟨b, 0, none⟩) h.lt hF).trans h.c0, (g.cell (p := ⟨b, 1, none⟩) h.lt hF).trans h.c1, (g.frozen (p := ⟨b, 0, none⟩) h.lt hF).trans h.f0, (g.frozen (p := ⟨b, 1, none⟩) h.lt hF).trans h.f1⟩
/-- The answer's variable is written: nothing else of what was there. -/
theorem far_two {F : Nat → Prop} {w V : World} {b : Nat} (h : Far F w V) (hb : w.heap.size ≤ b) (x y : Value) : Far F w ((V.setCell ⟨b, 0, none⟩ x).setCell ⟨b, 1, none⟩ y) := by
  have k : Far (fun k => k = b) V ((V.setCell ⟨b, 0, none⟩ x).setCell ⟨b, 1, none⟩ y) := Far.setCell (F := fun k => k = b) (Far.one V ⟨b, 0, none⟩ x) (p := ⟨b, 1, none⟩) rfl y
  exact ⟨k.os.trans h.os, k.tape.trans h.tape, k.output.trans h.output, Nat.le_trans h.size k.size, fun i hi hF => (k.block i (Nat.lt_of_lt_of_le hi h.size) (fun e => by have : i = b := e; omega)).trans (h.block i hi hF)⟩
theorem back_two {w1 : World} {b : Nat} (N : NewF w1 b) (x y : Value) (o : Obj) : (((w1.setCell ⟨b, 0, none⟩ x).setCell ⟨b, 1, none⟩ y).alloc o).cell? ⟨b, 0, none⟩ = some x ∧ (((w1.setCell ⟨b, 0, none⟩ x).setCell ⟨b, 1, none⟩ y).alloc o).cell? ⟨b, 1, none⟩ = some y := by
  have ne : ∀ {i j : Nat}, i ≠ j → (⟨b, i, none⟩ : Addr) ≠ ⟨b, j, none⟩ := fun hj e => hj (by injection e)
  have g := (Grew.refl ((w1.setCell ⟨b, 0, none⟩ x).setCell ⟨b, 1, none⟩ y)).alloc o
  have hb : b < ((w1.setCell ⟨b, 0, none⟩ x).setCell ⟨b, 1, none⟩ y).heap.size := by simpa [World.setCell] using N.lt
  refine ⟨(g.cell (p := ⟨b, 0, none⟩) hb).trans ?_, (g.cell (p := ⟨b, 1, none⟩) hb).trans ?_⟩
  · rw [World.cell?_setCell_other _ _ _ _ (ne (by omega))]; exact World.cell?_setCell_same _ _ _ N.c0
  · exact World.cell?_setCell_same _ _ _ ((World.cell?_setCell_other _ _ _ _ (ne (by omega))).trans N.c1)
theorem refNext_of {g size lost : Nat} {L0 : Value} {L : List Nat} {w w' : World} {o : Option (Nat × List Nat)} {d : Nat} {R : List Nat} {Lv : Value} (hN : nextOf size L = (o, d, R)) (k : Nat) (fv : Value) (hk : k = (frameOf o).1) (hk2 : k < 256) (ho : Own w.heap.size 5 .u8 w' fv (frameOf o).2) (hR : RefAt w' g size Lv R lost) (hb : Lv.ownBlock = L0.ownBlock) (hF : Far (fun k => k = g) w w') :
    RefNext g size L0 L lost w (.returned (.tuple #[.agg #[.int .u8 k, fv], .bool o.isSome, .int .i64 (d : Nat)])) w' := by
  refine ⟨fv, Lv, ?_, ?_, ?_, ?_, hb, hF⟩
  · rw [hN, hk]
  · rw [hN]; exact ho
  · rw [hN]; rw [← hk]; exact hk2
  · rw [hN]; exact hR
theorem far_at {V : World} {b : Nat} (x y : Value) : Far (fun k => k = b) V ((V.setCell ⟨b, 0, none⟩ x).setCell ⟨b, 1, none⟩ y) := Far.setCell (F := fun k => k = b) (Far.one V ⟨b, 0, none⟩ x) (p := ⟨b, 1, none⟩) rfl y

/-- The i-th one of frames. -/
def fr (fs : List (Nat × List Nat)) (i : Nat) : Nat × List Nat := fs.getD i (0, [])
/-- A frame in memory. -/
structure FrameIn (w : World) (b o : Nat) (f : Nat × List Nat) (v : Value) : Prop where
  lt : b < w.heap.size
  c0 : w.cell? ⟨b, o, none⟩ = some (.int .u8 (f.1 : Nat))
  c1 : w.cell? ⟨b, o + 1, none⟩ = some v
  row : Row .u8 w v f.2
  k : f.1 < 256
theorem FrameIn.grew {w w' : World} {b o : Nat} {f : Nat × List Nat} {v : Value} (h : FrameIn w b o f v) (g : Grew w w') : FrameIn w' b o f v :=
  ⟨Nat.lt_of_lt_of_le h.lt g.size, (g.cell (p := ⟨b, o, none⟩) h.lt).trans h.c0, (g.cell (p := ⟨b, o + 1, none⟩) h.lt).trans h.c1, h.row.grew g, h.k⟩
/-- Frames behind a slice value. -/
def FramesAt (w : World) (v : Value) (fs : List (Nat × List Nat)) : Prop :=
  ∃ A c, v = .slice A fs.length c ∧ fs.length ≤ c ∧ (0 < fs.length → ∃ b o, A = some ⟨b, o, none⟩ ∧ ∀ i, i < fs.length → ∃ fv, FrameIn w b (o + i * 2) (fr fs i) fv)
theorem FramesAt.grew {w w' : World} {v : Value} {fs : List (Nat × List Nat)} (h : FramesAt w v fs) (g : Grew w w') : FramesAt w' v fs := by
  obtain ⟨A, c, e, hc, hr⟩ := h
  refine ⟨A, c, e, hc, fun hn => ?_⟩
  obtain ⟨b, o, e2, hf⟩ := hr hn
  refine ⟨b, o, e2, fun i hi => ?_⟩
  obtain ⟨fv, hv⟩ := hf i hi
  exact ⟨fv, hv.grew g⟩

end Go.Proofs.YtlcmjedbdopglaaGreatDoor

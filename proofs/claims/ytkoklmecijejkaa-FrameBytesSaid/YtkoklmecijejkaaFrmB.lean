/-
  The document's frames: what bytes begin.
-/
import Derived.Test.YtkoklmecijejkaaFrmS
import Derived.Deep.DeepCutAuto
namespace Go.Proofs.Ytkoklmecijejkaa
open Go.RowKit
set_option linter.unusedVariables false

def BodyTells (size : Nat) (L : List Nat) (w : World) (e : Ending) (w' : World) : Prop :=
  ∃ A n c, e = .returned (.tuple #[.agg #[.int .u8 ((bodyOf size L).1 : Nat), .slice A n c], .bool (bodyOf size L).2.2.1, .bool (bodyOf size L).2.2.2]) ∧ ((bodyOf size L).2.2.2 = false → Own w.heap.size 5 .u8 w' (.slice A n c) (bodyOf size L).2.1) ∧ Grew w w'
theorem bodyTells_of {size : Nat} {L : List Nat} {w w' : World} (k : Nat) (ns : List Nat) (t r : Bool) (h : bodyOf size L = (k, ns, t, r)) (fv : Value) (ho : r = false → Own w.heap.size 5 .u8 w' fv ns) (g : Grew w w') (hv : ∃ A n c, fv = .slice A n c := by exact ⟨_, _, _, rfl⟩) :
    BodyTells size L w (.returned (.tuple #[.agg #[.int .u8 k, fv], .bool t, .bool r])) w' := by
  obtain ⟨A, n, c, rfl⟩ := hv
  refine ⟨A, n, c, ?_, ?_, g⟩
  · rw [h]
  · rw [h]; exact ho

set_option maxRecDepth 1000000 in
set_option maxHeartbeats 2000000 in
theorem ref08_body0 (bv : Value) (L : List Nat) (size : Nat) (w : World) (hR : Row .u8 w bv L) (hB : Bytes L) (hl : L.length ≤ 5000) (h0 : 0 < L.length) (hs : size ≤ 100000) (h1 : wd L 0 ≠ 36) (h2 : wd L 0 ≠ 181) (h3 : wd L 0 ≠ 160) :
    Calls Try.prog 42 #[bv, .int .i64 size] w (BodyTells size L w) := by
  have hb : bodyOf size L = (0, [], false, true) := by unfold bodyOf; rw [if_neg h1, if_neg h2, if_neg h3]
  have HF := fun w' (g : Grew w w') => Lib.hid (bodyTells_of 0 [] false true hb (.slice none 0 0) (fun h => by cases h) g)
  obtain ⟨Ax, cx, rfl, hcx, hr⟩ := hR
  obtain ⟨rb, ro, rfl, hrb, hcell⟩ := hr h0
  have y0 := hcell 0 h0
  rw [Nat.add_zero] at y0
  have hx := hB 0
  have n0 : (0 : Int) < L.length := by omega
  generalize wd L 0 = x at *
  have k1 : ¬ (x : Int) = 36 := by omega
  have k2 : ¬ (x : Int) = 181 := by omega
  have k3 : ¬ (x : Int) = 160 := by omega
  clear hcell hr hb hB
  go_enter Try.func42, Try.ntmps42
  go_wp2_with fail
  refine bodyPost_ret (by simp [results, Try.results42, go_sem]; try rfl) rfl ?_
  exact (HF _ (((Grew.refl w).alloc _).alloc _)).out

/-- The answer's variable and the frame's, that a call has made. -/
structure Begun (w wr : World) (k : Nat) (v : Value) : Prop where
  g : Grew w wr
  sz : w.heap.size + 2 ≤ wr.heap.size
  r0 : wr.cell? ⟨w.heap.size, 0, none⟩ = some (.int .u8 0)
  r1 : wr.cell? ⟨w.heap.size, 1, none⟩ = some (.slice none 0 0)
  fr0 : wr.frozen? ⟨w.heap.size, 0, none⟩ = false
  fr1 : wr.frozen? ⟨w.heap.size, 1, none⟩ = false
  f0 : wr.cell? ⟨w.heap.size + 1, 0, none⟩ = some (.int .u8 (k : Nat))
  f1 : wr.cell? ⟨w.heap.size + 1, 1, none⟩ = some v
  ff0 : wr.frozen? ⟨w.heap.size + 1, 0, none⟩ = false
  ff1 : wr.frozen? ⟨w.heap.size + 1, 1, none⟩ = false
theorem Begun.new (w : World) (E : TypeId) : Begun w ((w.alloc (.cells #[.int .u8 0, .slice none 0 0] E)).alloc (.cells #[.int .u8 0, .slice none 0 0] E)) 0 (.slice none 0 0) := by
  refine ⟨((Grew.refl w).alloc _).alloc _, by simp, ?_, ?_, ?_, ?_, ?_, ?_, ?_, ?_⟩ <;> simp [go_sem]
theorem Begun.newK (w : World) (E : TypeId) (k : Nat) : Begun w ((w.alloc (.cells #[.int .u8 0, .slice none 0 0] E)).alloc (.cells #[.int .u8 (k : Nat), .slice none 0 0] E)) k (.slice none 0 0) := by
  refine ⟨((Grew.refl w).alloc _).alloc _, by simp, ?_, ?_, ?_, ?_, ?_, ?_, ?_, ?_⟩ <;> simp [go_sem]
theorem Begun.grow {w wr w' : World} {k : Nat} {v : Value} (h : Begun w wr k v) (D : Below (w.heap.size + 2) wr w') : Begun w w' k v := by
  have c : ∀ b j, b < w.heap.size + 2 → w'.cell? ⟨b, j, none⟩ = wr.cell? ⟨b, j, none⟩ := fun b j hb => World.cell?_of_block (w := wr) (D.block b hb)
  have f : ∀ b j, b < w.heap.size + 2 → w'.frozen? ⟨b, j, none⟩ = wr.frozen? ⟨b, j, none⟩ := fun b j hb => World.frozen?_of_block (w := wr) (D.block b hb)
  exact ⟨Below.trans h.g (Below.mono D (by omega)), Nat.le_trans h.sz D.size, (c _ _ (by omega)).trans h.r0, (c _ _ (by omega)).trans h.r1, (f _ _ (by omega)).trans h.fr0, (f _ _ (by omega)).trans h.fr1,
    (c _ _ (by omega)).trans h.f0, (c _ _ (by omega)).trans h.f1, (f _ _ (by omega)).trans h.ff0, (f _ _ (by omega)).trans h.ff1⟩
theorem Begun.kind {w wr : World} {k : Nat} {v : Value} (h : Begun w wr k v) (k' : Nat) : Begun w (wr.setCell ⟨w.heap.size + 1, 0, none⟩ (.int .u8 (k' : Nat))) k' v := by
  have o : ∀ {b j : Nat}, ¬ (b = w.heap.size + 1 ∧ j = 0) → (⟨w.heap.size + 1, 0, none⟩ : Addr) ≠ ⟨b, j, none⟩ := fun hn e => hn (by injection e with e1 e2; exact ⟨e1.symm, e2.symm⟩)
  refine ⟨h.g.setCell (by show _ ≤ w.heap.size + 1; omega) _, by simpa [World.setCell] using h.sz, ?_, ?_, by simpa [go_sem] using h.fr0, by simpa [go_sem] using h.fr1, World.cell?_setCell_same _ _ _ h.f0, ?_, by simpa [go_sem] using h.ff0, by simpa [go_sem] using h.ff1⟩
  · rw [World.cell?_setCell_other _ _ _ _ (o (by omega))]; exact h.r0
  · rw [World.cell?_setCell_other _ _ _ _ (o (by omega))]; exact h.r1
  · rw [World.cell?_setCell_other _ _ _ _ (o (by omega))]; exact h.f1
theorem Begun.body {w wr : World} {k : Nat} {v : Value} (h : Begun w wr k v) (v' : Value) : Begun w (wr.setCell ⟨w.heap.size + 1, 1, none⟩ v') k v' := by
  have o : ∀ {b j : Nat}, ¬ (b = w.heap.size + 1 ∧ j = 1) → (⟨w.heap.size + 1, 1, none⟩ : Addr) ≠ ⟨b, j, none⟩ := fun hn e => hn (by injection e with e1 e2; exact ⟨e1.symm, e2.symm⟩)
  refine ⟨h.g.setCell (by show _ ≤ w.heap.size + 1; omega) _, by simpa [World.setCell] using h.sz, ?_, ?_, by simpa [go_sem] using h.fr0, by simpa [go_sem] using h.fr1, ?_, World.cell?_setCell_same _ _ _ h.f1, by simpa [go_sem] using h.ff0, by simpa [go_sem] using h.ff1⟩
  · rw [World.cell?_setCell_other _ _ _ _ (o (by omega))]; exact h.r0
  · rw [World.cell?_setCell_other _ _ _ _ (o (by omega))]; exact h.r1
  · rw [World.cell?_setCell_other _ _ _ _ (o (by omega))]; exact h.f0
/-- What is told: the frame goes into the answer's variable. -/
theorem Begun.told {w wr : World} {k : Nat} {v : Value} (h : Begun w wr k v) {size : Nat} {L : List Nat} (ns : List Nat) (t r : Bool) (hb : bodyOf size L = (k, ns, t, r)) (ho : r = false → Own (w.heap.size + 2) 5 .u8 wr v ns) (x y : Value) (hv : ∃ A n c, v = .slice A n c := by exact ⟨_, _, _, rfl⟩) :
    BodyTells size L w (.returned (.tuple #[.agg #[.int .u8 k, v], .bool t, .bool r])) ((wr.setCell ⟨w.heap.size, 0, none⟩ x).setCell ⟨w.heap.size, 1, none⟩ y) := by
  have G : Grew w ((wr.setCell ⟨w.heap.size, 0, none⟩ x).setCell ⟨w.heap.size, 1, none⟩ y) := (h.g.setCell (Nat.le_refl _) _).setCell (Nat.le_refl _) _
  refine bodyTells_of k ns t r hb v (fun hr => ?_) G hv
  have F : Far (fun b => b = w.heap.size) wr ((wr.setCell ⟨w.heap.size, 0, none⟩ x).setCell ⟨w.heap.size, 1, none⟩ y) := Far.setCell (F := fun b => b = w.heap.size) (Far.setCell (F := fun b => b = w.heap.size) (Far.refl _ wr) (p := ⟨w.heap.size, 0, none⟩) rfl x) (p := ⟨w.heap.size, 1, none⟩) rfl y
  refine own_base ((ho hr).far F (fun b hb e => ?_)) (Nat.le_add_right _ 2)
  have := World.ownsRow.lt (ho hr) b hb
  omega

set_option maxRecDepth 1000000 in
set_option maxHeartbeats 2000000 in
theorem ref08_body2_wrong (bv : Value) (L : List Nat) (size : Nat) (w : World) (hR : Row .u8 w bv L) (hB : Bytes L) (hl : L.length ≤ 5000) (h0 : 1 < L.length) (hs : size ≤ 100000) (h1 : wd L 0 = 181) (h2 : wd L 1 ≠ 98) :
    Calls Try.prog 42 #[bv, .int .i64 size] w (BodyTells size L w) := by
  have hb : bodyOf size L = (2, [], false, true) := by unfold bodyOf; rw [if_neg (by omega), if_pos h1, if_pos ⟨h0, h2⟩]
  have HF := fun w' (g : Grew w w') => Lib.hid (bodyTells_of 2 [] false true hb (.slice none 0 0) (fun h => by cases h) g)
  obtain ⟨Ax, cx, rfl, hcx, hr⟩ := hR
  obtain ⟨rb, ro, rfl, hrb, hcell⟩ := hr (by omega)
  have y0 := hcell 0 (by omega)
  rw [Nat.add_zero, h1] at y0
  have n0 : (0 : Int) < L.length := by omega
  have y1 := hcell 1 (by omega)
  have hx := hB 1
  have n1 : (1 : Int) < L.length := by omega
  generalize wd L 1 = x at *
  have k1 : ¬ (x : Int) = 98 := by omega
  clear hcell hr hb hB
  go_enter Try.func42, Try.ntmps42
  go_wp2_with fail
  refine bodyPost_ret (by simp [results, Try.results42, go_sem]; try rfl) rfl ?_
  exact (HF _ (((Grew.refl w).alloc _).alloc _)).out
set_option maxRecDepth 1000000 in
set_option maxHeartbeats 2000000 in
theorem ref08_body2_short (bv : Value) (L : List Nat) (size : Nat) (w : World) (hR : Row .u8 w bv L) (hB : Bytes L) (hl : L.length ≤ 5000) (h0 : 0 < L.length) (hs : size ≤ 100000) (h1 : wd L 0 = 181) (h2 : 1 < L.length → wd L 1 = 98) (h3 : L.length < 6) :
    Calls Try.prog 42 #[bv, .int .i64 size] w (BodyTells size L w) := by
  have hb : bodyOf size L = (2, [], false, false) := by unfold bodyOf; rw [if_neg (by omega), if_pos h1, if_neg (fun h => h.2 (h2 h.1)), if_pos h3]
  have HF := fun w' (g : Grew w w') => Lib.hid (bodyTells_of 2 [] false false hb (.slice none 0 0) (fun h => Own.nil _ _ _ _) g)
  obtain ⟨Ax, cx, rfl, hcx, hr⟩ := hR
  obtain ⟨rb, ro, rfl, hrb, hcell⟩ := hr (by omega)
  have y0 := hcell 0 (by omega)
  rw [Nat.add_zero, h1] at y0
  have n0 : (0 : Int) < L.length := by omega
  rcases (show L.length = 1 ∨ 1 < L.length by omega) with hc | hc
  · have hc' : ¬ (1 : Int) < L.length := by omega
    clear hcell hr hb hB h2
    go_enter Try.func42, Try.ntmps42
    go_wp2_with fail
    refine bodyPost_ret (by simp [results, Try.results42, go_sem]; try rfl) rfl ?_
    exact (HF _ (((Grew.refl w).alloc _).alloc _)).out
  · have y1 := hcell 1 (by omega)
    rw [h2 hc] at y1
    have n1 : (1 : Int) < L.length := by omega
    have n6 : (L.length : Int) < 6 := by omega
    clear hcell hr hb hB h2
    go_enter Try.func42, Try.ntmps42
    go_wp2_with fail
    refine bodyPost_ret (by simp [results, Try.results42, go_sem]; try rfl) rfl ?_
    exact (HF _ (((Grew.refl w).alloc _).alloc _)).out
set_option maxRecDepth 1000000 in
set_option maxHeartbeats 2000000 in
theorem ref08_body3_wrong (bv : Value) (L : List Nat) (size : Nat) (w : World) (hR : Row .u8 w bv L) (hB : Bytes L) (hl : L.length ≤ 5000) (h0 : 1 < L.length) (hs : size ≤ 100000) (h1 : wd L 0 = 160) (h2 : wd L 1 ≠ 162) :
    Calls Try.prog 42 #[bv, .int .i64 size] w (BodyTells size L w) := by
  have hb : bodyOf size L = (3, [], false, true) := by unfold bodyOf; rw [if_neg (by omega), if_neg (by omega), if_pos h1, if_pos ⟨h0, h2⟩]
  have HF := fun w' (g : Grew w w') => Lib.hid (bodyTells_of 3 [] false true hb (.slice none 0 0) (fun h => by cases h) g)
  obtain ⟨Ax, cx, rfl, hcx, hr⟩ := hR
  obtain ⟨rb, ro, rfl, hrb, hcell⟩ := hr (by omega)
  have y0 := hcell 0 (by omega)
  rw [Nat.add_zero, h1] at y0
  have n0 : (0 : Int) < L.length := by omega
  have y1 := hcell 1 (by omega)
  have hx := hB 1
  have n1 : (1 : Int) < L.length := by omega
  generalize wd L 1 = x at *
  have k1 : ¬ (x : Int) = 162 := by omega
  clear hcell hr hb hB
  go_enter Try.func42, Try.ntmps42
  go_wp2_with fail
  refine bodyPost_ret (by simp [results, Try.results42, go_sem]; try rfl) rfl ?_
  exact (HF _ (((Grew.refl w).alloc _).alloc _)).out
set_option maxRecDepth 1000000 in
set_option maxHeartbeats 2000000 in
theorem ref08_body3_short (bv : Value) (L : List Nat) (size : Nat) (w : World) (hR : Row .u8 w bv L) (hB : Bytes L) (hl : L.length ≤ 5000) (h0 : 0 < L.length) (hs : size ≤ 100000) (h1 : wd L 0 = 160) (h2 : 1 < L.length → wd L 1 = 162) (h3 : L.length < 4) :
    Calls Try.prog 42 #[bv, .int .i64 size] w (BodyTells size L w) := by
  have hb : bodyOf size L = (3, [], false, false) := by unfold bodyOf; rw [if_neg (by omega), if_neg (by omega), if_pos h1, if_neg (fun h => h.2 (h2 h.1)), if_pos h3]
  have HF := fun w' (g : Grew w w') => Lib.hid (bodyTells_of 3 [] false false hb (.slice none 0 0) (fun h => Own.nil _ _ _ _) g)
  obtain ⟨Ax, cx, rfl, hcx, hr⟩ := hR
  obtain ⟨rb, ro, rfl, hrb, hcell⟩ := hr (by omega)
  have y0 := hcell 0 (by omega)
  rw [Nat.add_zero, h1] at y0
  have n0 : (0 : Int) < L.length := by omega
  rcases (show L.length = 1 ∨ 1 < L.length by omega) with hc | hc
  · have hc' : ¬ (1 : Int) < L.length := by omega
    clear hcell hr hb hB h2
    go_enter Try.func42, Try.ntmps42
    go_wp2_with fail
    refine bodyPost_ret (by simp [results, Try.results42, go_sem]; try rfl) rfl ?_
    exact (HF _ (((Grew.refl w).alloc _).alloc _)).out
  · have y1 := hcell 1 (by omega)
    rw [h2 hc] at y1
    have n1 : (1 : Int) < L.length := by omega
    have n6 : (L.length : Int) < 4 := by omega
    clear hcell hr hb hB h2
    go_enter Try.func42, Try.ntmps42
    go_wp2_with fail
    refine bodyPost_ret (by simp [results, Try.results42, go_sem]; try rfl) rfl ?_
    exact (HF _ (((Grew.refl w).alloc _).alloc _)).out
end Go.Proofs.Ytkoklmecijejkaa

/-
  Contracts of the document's sums of numbers.
-/
import Derived.Test.YtckkjccaomdnpaaRefC
import Derived.Deep.RegionHeld3
namespace Go.Proofs.Ytckkjccaomdnpaa
open Go.RowKit
set_option linter.unusedVariables false

/-- Three new blocks of two cells each, under one name. -/
theorem three_new (w : World) (a b c d e f : Value) (E : TypeId) : ∃ W, ((w.alloc (.cells #[a, b] E)).alloc (.cells #[c, d] E)).alloc (.cells #[e, f] E) = W ∧ Grew w W ∧
    W.cell? ⟨w.heap.size, 0, none⟩ = some a ∧ W.cell? ⟨w.heap.size, 1, none⟩ = some b ∧ W.cell? ⟨w.heap.size + 1, 0, none⟩ = some c ∧ W.cell? ⟨w.heap.size + 1, 1, none⟩ = some d ∧
    W.cell? ⟨w.heap.size + 1 + 1, 0, none⟩ = some e ∧ W.cell? ⟨w.heap.size + 1 + 1, 1, none⟩ = some f ∧ W.frozen? ⟨w.heap.size + 1 + 1, 0, none⟩ = false ∧ W.frozen? ⟨w.heap.size + 1 + 1, 1, none⟩ = false ∧
    w.heap.size + 1 + 1 < W.heap.size := by
  refine ⟨_, rfl, (((Grew.refl _).alloc _).alloc _).alloc _, ?_, ?_, ?_, ?_, ?_, ?_, ?_, ?_, by simp⟩ <;> simp [go_sem]

/-- Cells that stay. -/
theorem cells_kept {W w' : World} {p q r : Addr} {a b c : Value} (g : Grew W w') (hp : p.block < W.heap.size) (hq : q.block < W.heap.size) (hr : r.block < W.heap.size)
    (h1 : W.cell? p = some a) (h2 : W.cell? q = some b) (h3 : W.cell? r = some c) : w'.cell? p = some a ∧ w'.cell? q = some b ∧ w'.cell? r = some c :=
  ⟨(g.cell hp).trans h1, (g.cell hq).trans h2, (g.cell hr).trans h3⟩
theorem cells_set {w : World} {p q r : Addr} {a b c x y : Value} {R : Nat} (h : w.cell? p = some a ∧ w.cell? q = some b ∧ w.cell? r = some c) (hp : p.block ≠ R) (hq : q.block ≠ R) (hr : r.block ≠ R) :
    ((w.setCell ⟨R, 0, none⟩ x).setCell ⟨R, 1, none⟩ y).cell? p = some a ∧ ((w.setCell ⟨R, 0, none⟩ x).setCell ⟨R, 1, none⟩ y).cell? q = some b ∧ ((w.setCell ⟨R, 0, none⟩ x).setCell ⟨R, 1, none⟩ y).cell? r = some c := by
  have o : ∀ {s : Addr} {n : Nat}, s.block ≠ R → (⟨R, n, none⟩ : Addr) ≠ s := fun h e => h (by rw [← e])
  rw [World.cell?_setCell_other _ _ _ _ (o hp), World.cell?_setCell_other _ _ _ _ (o hp), World.cell?_setCell_other _ _ _ _ (o hq), World.cell?_setCell_other _ _ _ _ (o hq), World.cell?_setCell_other _ _ _ _ (o hr), World.cell?_setCell_other _ _ _ _ (o hr)]
  exact h
/-- The result's place stays. -/
theorem place_kept {W w' : World} {r : Nat} {a b : Value} (g : Grew W w') (hr : r < W.heap.size) (h1 : W.cell? ⟨r, 0, none⟩ = some a) (h2 : W.cell? ⟨r, 1, none⟩ = some b) (h3 : W.frozen? ⟨r, 0, none⟩ = false) (h4 : W.frozen? ⟨r, 1, none⟩ = false) :
    w'.cell? ⟨r, 0, none⟩ = some a ∧ w'.cell? ⟨r, 1, none⟩ = some b ∧ w'.frozen? ⟨r, 0, none⟩ = false ∧ w'.frozen? ⟨r, 1, none⟩ = false ∧ r < w'.heap.size :=
  ⟨(g.cell hr).trans h1, (g.cell hr).trans h2, (g.frozen hr).trans h3, (g.frozen hr).trans h4, Nat.lt_of_lt_of_le hr g.size⟩

set_option maxHeartbeats 1000000 in
theorem add_same (b : Bool) (sx sy : Value) (xs ys : List Nat) (n : Int) (w : World) (h : Row .u64 w sx xs) (k : Row .u64 w sy ys) (hx : Words xs) (hy : Words ys) (hl : xs.length ≤ 900000) (kl : ys.length ≤ 900000) (hn : Hid (signed b (val xs + val ys) = n)) :
    Calls Try.prog 17 #[.agg #[.bool b, sx], .agg #[.bool b, sy]] w (Tells w n (max xs.length ys.length + 1)) := by
  obtain ⟨A, c, hA, _⟩ := h.form
  obtain ⟨B, d, hB, _⟩ := k.form
  subst hA hB
  have hbb : (b == b) = true := by cases b <;> rfl
  go_enter Try.func17, Try.ntmps17
  go_wp2
  obtain ⟨W, hW, g0, x0, x1, y0, y1, r0, r1, f0, f1, hsz⟩ := three_new w (.bool b) (.slice A xs.length c) (.bool b) (.slice B ys.length d) (.bool false) (.slice none 0 0) 37
  rw [hW]
  clear hW
  have e1 : w.heap.size < W.heap.size := by omega
  have e2 : w.heap.size + 1 < W.heap.size := by omega
  go_region_held3 (fun w' => w'.cell? ⟨w.heap.size, 0, none⟩ = some (.bool b) ∧ w'.cell? ⟨w.heap.size, 1, none⟩ = some (.slice A xs.length c) ∧ w'.cell? ⟨w.heap.size + 1, 1, none⟩ = some (.slice B ys.length d))
    (first | exact ⟨x0, x1, y1⟩ | exact cells_kept ((Grew.refl W).drew.trans hg1) e1 e1 e2 x0 x1 y1 | exact cells_kept (((Grew.refl W).drew.trans hg1).trans hg2) e1 e1 e2 x0 x1 y1 | exact cells_set (cells_kept (((Grew.refl W).drew.trans hg1).trans hg2) e1 e1 e2 x0 x1 y1) (by simp; omega) (by simp; omega) (by simp))
    (first | (go_at_call 26; refine (ref_joined _ _ xs ys _ (h.grew g0.drew) (k.grew g0.drew) hx hy (by omega) (by omega)).mono ?_; rintro e w1 ⟨v1, zs, rfl, hr1, hz1, hv1, hl1, hg1⟩) | (go_at_call 25; refine (ref_make b _ zs n _ _ hr1 hz1 hl1 (by omega) (by rw [hv1]; exact hn.out)).mono ?_; rintro e w2 ⟨v2, rfl, hN, hg2⟩; obtain ⟨A2, m2, c2, rfl⟩ := hN.form; obtain ⟨k0, k1, k2, k3, k4⟩ := place_kept (((Grew.refl W).drew.trans hg1).trans hg2) hsz r0 r1 f0 f1))
  go_wp2
  refine bodyPost_ret (by simp [results, Try.results17, go_sem, k0, k1]; try rfl) rfl ?_
  exact tells_of hN (g0.trans (((Grew.refl W).drew.trans hg1).trans hg2)) k0 k1 (by omega)

set_option maxHeartbeats 2000000 in
theorem add_diff (b : Bool) (sx sy : Value) (xs ys : List Nat) (n : Int) (w : World) (h : Row .u64 w sx xs) (k : Row .u64 w sy ys) (hx : Words xs) (hy : Words ys) (hl : xs.length ≤ 900000) (kl : ys.length ≤ 900000)
    (hn : Hid (if val ys ≤ val xs then signed b (val xs - val ys) = n else signed (!b) (val ys - val xs) = n)) :
    Calls Try.prog 17 #[.agg #[.bool b, sx], .agg #[.bool (!b), sy]] w (Tells w n (max xs.length ys.length + 1)) := by
  obtain ⟨A, c, hA, _⟩ := h.form
  obtain ⟨B, d, hB, _⟩ := k.form
  subst hA hB
  have hbb : (b == !b) = false := by cases b <;> rfl
  have gw : Grew w (((w.alloc (.cells #[.bool b, .slice A xs.length c] 37)).alloc (.cells #[.bool (!b), .slice B ys.length d] 37)).alloc (.cells #[.bool false, .slice none 0 0] 37)) := (((Grew.refl _).alloc _).alloc _).alloc _
  by_cases hle : val ys ≤ val xs
  · have hc : 0 ≤ cmpOf (val xs) (val ys) := by unfold cmpOf; split <;> (try split) <;> omega
    have hn : Hid (signed b (val xs - val ys) = n) := by have := hn.out; rw [if_pos hle] at this; exact this
    go_enter Try.func17, Try.ntmps17
    go_wp2_with (go_at_call 27; refine (ref_larger _ _ xs ys _ (h.grew gw) (k.grew gw) hx hy (by omega) (by omega)).mono ?_; rintro e w1 ⟨rfl, rfl⟩)
    obtain ⟨W, hW, g0, x0, x1, y0, y1, r0, r1, f0, f1, hsz⟩ := three_new w (.bool b) (.slice A xs.length c) (.bool (!b)) (.slice B ys.length d) (.bool false) (.slice none 0 0) 37
    rw [hW]
    clear hW
    have e1 : w.heap.size < W.heap.size := by omega
    have e2 : w.heap.size + 1 < W.heap.size := by omega
    go_region_held3 (fun w' => w'.cell? ⟨w.heap.size, 0, none⟩ = some (.bool b) ∧ w'.cell? ⟨w.heap.size, 1, none⟩ = some (.slice A xs.length c) ∧ w'.cell? ⟨w.heap.size + 1, 1, none⟩ = some (.slice B ys.length d))
      (first | exact ⟨x0, x1, y1⟩ | exact cells_kept ((Grew.refl W).drew.trans hg1) e1 e1 e2 x0 x1 y1 | exact cells_kept (((Grew.refl W).drew.trans hg1).trans hg2) e1 e1 e2 x0 x1 y1 | exact cells_set (cells_kept (((Grew.refl W).drew.trans hg1).trans hg2) e1 e1 e2 x0 x1 y1) (by simp; omega) (by simp; omega) (by simp))
      (first | (go_at_call 28; refine (ref_parted _ _ xs ys _ (h.grew g0.drew) (k.grew g0.drew) hx hy (by omega) (by omega) hle).mono ?_; rintro e w1 ⟨v1, zs, rfl, hr1, hz1, hv1, hl1, hg1⟩) | (go_at_call 25; refine (ref_make b _ zs n (max xs.length ys.length + 1) _ hr1 hz1 (by omega) (by omega) (by rw [hv1]; exact hn.out)).mono ?_; rintro e w2 ⟨v2, rfl, hN, hg2⟩; obtain ⟨A2, m2, c2, rfl⟩ := hN.form; obtain ⟨k0, k1, k2, k3, k4⟩ := place_kept (((Grew.refl W).drew.trans hg1).trans hg2) hsz r0 r1 f0 f1))
    go_wp2
    refine bodyPost_ret (by simp [results, Try.results17, go_sem, k0, k1]; try rfl) rfl ?_
    exact tells_of hN (g0.trans (((Grew.refl W).drew.trans hg1).trans hg2)) k0 k1 (by omega)
  · have hc : cmpOf (val xs) (val ys) < 0 := by unfold cmpOf; rw [if_neg (by omega), if_pos (by omega)]; omega
    have hn : Hid (signed (!b) (val ys - val xs) = n) := by have := hn.out; rw [if_neg hle] at this; exact this
    replace hle : val xs ≤ val ys := by omega
    go_enter Try.func17, Try.ntmps17
    go_wp2_with (go_at_call 27; refine (ref_larger _ _ xs ys _ (h.grew gw) (k.grew gw) hx hy (by omega) (by omega)).mono ?_; rintro e w1 ⟨rfl, rfl⟩)
    obtain ⟨W, hW, g0, x0, x1, y0, y1, r0, r1, f0, f1, hsz⟩ := three_new w (.bool (!b)) (.slice B ys.length d) (.bool b) (.slice A xs.length c) (.bool false) (.slice none 0 0) 37
    rw [hW]
    clear hW
    have e1 : w.heap.size < W.heap.size := by omega
    have e2 : w.heap.size + 1 < W.heap.size := by omega
    go_region_held3 (fun w' => w'.cell? ⟨w.heap.size, 0, none⟩ = some (.bool (!b)) ∧ w'.cell? ⟨w.heap.size, 1, none⟩ = some (.slice B ys.length d) ∧ w'.cell? ⟨w.heap.size + 1, 1, none⟩ = some (.slice A xs.length c))
      (first | exact ⟨x0, x1, y1⟩ | exact cells_kept ((Grew.refl W).drew.trans hg1) e1 e1 e2 x0 x1 y1 | exact cells_kept (((Grew.refl W).drew.trans hg1).trans hg2) e1 e1 e2 x0 x1 y1 | exact cells_set (cells_kept (((Grew.refl W).drew.trans hg1).trans hg2) e1 e1 e2 x0 x1 y1) (by simp; omega) (by simp; omega) (by simp))
      (first | (go_at_call 28; refine (ref_parted _ _ ys xs _ (k.grew g0.drew) (h.grew g0.drew) hy hx (by omega) (by omega) hle).mono ?_; rintro e w1 ⟨v1, zs, rfl, hr1, hz1, hv1, hl1, hg1⟩) | (go_at_call 25; refine (ref_make (!b) _ zs n (max xs.length ys.length + 1) _ hr1 hz1 (by omega) (by omega) (by rw [hv1]; exact hn.out)).mono ?_; rintro e w2 ⟨v2, rfl, hN, hg2⟩; obtain ⟨A2, m2, c2, rfl⟩ := hN.form; obtain ⟨k0, k1, k2, k3, k4⟩ := place_kept (((Grew.refl W).drew.trans hg1).trans hg2) hsz r0 r1 f0 f1))
    go_wp2
    refine bodyPost_ret (by simp [results, Try.results17, go_sem, k0, k1]; try rfl) rfl ?_
    exact tells_of hN (g0.trans (((Grew.refl W).drew.trans hg1).trans hg2)) k0 k1 (by omega)

end Go.Proofs.Ytckkjccaomdnpaa

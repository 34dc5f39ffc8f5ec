/-
  Contracts of the document's numbers: sums, differences, other signs.
-/
import Derived.Test.YtckkjccaomdnpaaRefD
namespace Go.Proofs.Ytckkjccaomdnpaa
open Go.RowKit
set_option linter.unusedVariables false

theorem Tells.more {w : World} {n : Int} {L M : Nat} {e : Ending} {w' : World} (h : Tells w n L e w') (g : L ≤ M) : Tells w n M e w' := by
  obtain ⟨v, he, hN, hg⟩ := h; exact ⟨v, he, hN.more g, hg⟩
theorem Num.form {w : World} {v : Value} {n : Int} {L : Nat} (h : Num w v n L) : ∃ A m c, v = .agg #[.bool (decide (n < 0)), .slice A m c] := by
  obtain ⟨sl, xs, rfl, hr, _⟩ := h
  obtain ⟨A, c, rfl, _⟩ := hr.form
  exact ⟨A, _, c, rfl⟩
theorem signed_of (n : Int) (m : Nat) (h : m = n.natAbs) : signed (decide (n < 0)) m = n := by
  unfold signed; split <;> simp_all <;> omega

theorem ref_Add (vx vy : Value) (x y : Int) (Lx Ly : Nat) (w : World) (hx : Num w vx x Lx) (hy : Num w vy y Ly) (hl : Lx ≤ 900000) (kl : Ly ≤ 900000) :
    Calls Try.prog 17 #[vx, vy] w (Tells w (x + y) (max Lx Ly + 1)) := by
  obtain ⟨sx, xs, rfl, rx, wx, ex, lx⟩ := hx
  obtain ⟨sy, ys, rfl, ry, wy, ey, ly⟩ := hy
  by_cases hs : (x < 0) = (y < 0)
  · have e : decide (x < 0) = decide (y < 0) := by simp [hs]
    rw [← e]
    refine (add_same (decide (x < 0)) sx sy xs ys (x + y) w rx ry wx wy (by omega) (by omega) ?_).mono fun e w' h => h.more (by omega)
    show _ = _
    unfold signed
    have : x < 0 ↔ y < 0 := by rw [hs]
    split <;> simp_all <;> omega
  · have e : decide (y < 0) = !(decide (x < 0)) := by
      by_cases h1 : x < 0 <;> by_cases h2 : y < 0 <;> simp_all
    rw [e]
    refine (add_diff (decide (x < 0)) sx sy xs ys (x + y) w rx ry wx wy (by omega) (by omega) ?_).mono fun e w' h => h.more (by omega)
    show (if _ then _ else _)
    have : ¬ (x < 0 ↔ y < 0) := fun h => hs (propext h)
    unfold signed
    by_cases h1 : x < 0 <;> by_cases h2 : y < 0 <;> simp_all <;> split <;> omega

theorem ref_Neg (v : Value) (x : Int) (L : Nat) (w : World) (hx : Num w v x L) (hl : L ≤ 1000000) :
    Calls Try.prog 32 #[v] w (Tells w (-x) L) := by
  obtain ⟨sx, xs, rfl, rx, wx, ex, lx⟩ := hx
  obtain ⟨A, c, hA, _⟩ := rx.form
  subst hA
  have hn : Hid (signed (!(decide (x < 0))) (val xs) = -x) := by show _ = _; unfold signed; by_cases h : x < 0 <;> simp_all <;> omega
  obtain ⟨y, hy⟩ : ∃ y, -x = y := ⟨_, rfl⟩
  rw [hy] at hn ⊢
  clear hy
  generalize decide (x < 0) = b at *
  have g0 : Grew w ((w.alloc (.cells #[.bool b, .slice A xs.length c] 37)).alloc (.cells #[.bool false, .slice none 0 0] 37)) := ((Grew.refl _).alloc _).alloc _
  go_enter Try.func32, Try.ntmps32
  go_wp2_with (go_at_call 25; refine (ref_make (!b) _ xs y L _ (rx.grew g0) wx lx hl hn.out).mono ?_; rintro e w1 ⟨v, rfl, hN, hg⟩; obtain ⟨A2, m2, c2, rfl⟩ := hN.form; obtain ⟨k0, k1, k2, k3, k4⟩ := place_kept (r := w.heap.size + 1) (a := .bool false) (b := .slice none 0 0) hg (by simp) (by simp) (by simp) (by simp [go_sem]) (by simp [go_sem]))
  refine bodyPost_ret (by simp [results, Try.results32, go_sem, k0, k1]; try rfl) rfl ?_
  exact tells_of hN (g0.trans hg) k0 k1 (by omega)

theorem four_kept {W w' : World} {p q r t : Addr} {a b c d : Value} (g : Grew W w') (hp : p.block < W.heap.size) (hq : q.block < W.heap.size) (hr : r.block < W.heap.size) (ht : t.block < W.heap.size)
    (h1 : W.cell? p = some a) (h2 : W.cell? q = some b) (h3 : W.cell? r = some c) (h4 : W.cell? t = some d) : w'.cell? p = some a ∧ w'.cell? q = some b ∧ w'.cell? r = some c ∧ w'.cell? t = some d :=
  ⟨(g.cell hp).trans h1, (g.cell hq).trans h2, (g.cell hr).trans h3, (g.cell ht).trans h4⟩
theorem four_set {w : World} {p q r t : Addr} {a b c d x y : Value} {R : Nat} (h : w.cell? p = some a ∧ w.cell? q = some b ∧ w.cell? r = some c ∧ w.cell? t = some d) (hp : p.block ≠ R) (hq : q.block ≠ R) (hr : r.block ≠ R) (ht : t.block ≠ R) :
    ((w.setCell ⟨R, 0, none⟩ x).setCell ⟨R, 1, none⟩ y).cell? p = some a ∧ ((w.setCell ⟨R, 0, none⟩ x).setCell ⟨R, 1, none⟩ y).cell? q = some b ∧ ((w.setCell ⟨R, 0, none⟩ x).setCell ⟨R, 1, none⟩ y).cell? r = some c ∧ ((w.setCell ⟨R, 0, none⟩ x).setCell ⟨R, 1, none⟩ y).cell? t = some d := by
  have o : ∀ {s : Addr} {n : Nat}, s.block ≠ R → (⟨R, n, none⟩ : Addr) ≠ s := fun h e => h (by rw [← e])
  rw [World.cell?_setCell_other _ _ _ _ (o hp), World.cell?_setCell_other _ _ _ _ (o hp), World.cell?_setCell_other _ _ _ _ (o hq), World.cell?_setCell_other _ _ _ _ (o hq), World.cell?_setCell_other _ _ _ _ (o hr), World.cell?_setCell_other _ _ _ _ (o hr), World.cell?_setCell_other _ _ _ _ (o ht), World.cell?_setCell_other _ _ _ _ (o ht)]
  exact h

set_option maxHeartbeats 1000000 in
theorem ref_Sub (vx vy : Value) (x y : Int) (Lx Ly : Nat) (w : World) (hx : Num w vx x Lx) (hy : Num w vy y Ly) (hl : Lx ≤ 900000) (kl : Ly ≤ 900000) :
    Calls Try.prog 23 #[vx, vy] w (Tells w (x - y) (max Lx Ly + 1)) := by
  obtain ⟨A, n, c, rfl⟩ := hx.form
  obtain ⟨B, m, d, rfl⟩ := hy.form
  generalize hbx : decide (x < 0) = bx at *
  generalize hby : decide (y < 0) = cy at *
  clear hbx hby
  go_enter Try.func23, Try.ntmps23
  go_wp2
  obtain ⟨W, hW, g0, x0, x1, y0, y1, r0, r1, f0, f1, hsz⟩ := three_new w (.bool bx) (.slice A n c) (.bool cy) (.slice B m d) (.bool false) (.slice none 0 0) 37
  rw [hW]
  clear hW
  have e1 : w.heap.size < W.heap.size := by omega
  have e2 : w.heap.size + 1 < W.heap.size := by omega
  go_region_held3 (fun w' => w'.cell? ⟨w.heap.size, 0, none⟩ = some (.bool bx) ∧ w'.cell? ⟨w.heap.size, 1, none⟩ = some (.slice A n c) ∧ w'.cell? ⟨w.heap.size + 1, 0, none⟩ = some (.bool cy) ∧ w'.cell? ⟨w.heap.size + 1, 1, none⟩ = some (.slice B m d))
    (first | exact ⟨x0, x1, y0, y1⟩ | exact four_kept ((Grew.refl W).drew.trans hg1) e1 e1 e2 e2 x0 x1 y0 y1 | exact four_kept (((Grew.refl W).drew.trans hg1).trans hg2) e1 e1 e2 e2 x0 x1 y0 y1 | exact four_set (four_kept (((Grew.refl W).drew.trans hg1).trans hg2) e1 e1 e2 e2 x0 x1 y0 y1) (by simp; omega) (by simp; omega) (by simp) (by simp))
    (first | (go_at_call 32; refine (ref_Neg _ y Ly _ (hy.grew g0.drew) (by omega)).mono ?_; rintro e w1 ⟨v1, rfl, hN1, hg1⟩) | (go_at_call 17; refine (ref_Add _ _ x (-y) Lx Ly _ (hx.grew (g0.drew.trans hg1)) hN1.num hl kl).mono ?_; rintro e w2 ⟨v2, rfl, hN, hg2⟩; obtain ⟨A2, m2, c2, rfl⟩ := hN.form; obtain ⟨k0, k1, k2, k3, k4⟩ := place_kept (((Grew.refl W).drew.trans hg1).trans hg2) hsz r0 r1 f0 f1))
  go_wp2
  refine bodyPost_ret (by simp [results, Try.results23, go_sem, k0, k1]; try rfl) rfl ?_
  have hE : x + -y = x - y := by omega
  rw [hE] at *
  exact tells_of hN (g0.trans (((Grew.refl W).drew.trans hg1).trans hg2)) k0 k1 (by omega)

theorem bool_nat (b : Bool) (n : Nat) (h : b = decide (n = 1)) (hn : n < 2) : b.toNat = n := by
  subst h
  by_cases h1 : n = 1
  · simp [h1]
  · have : n = 0 := by omega
    simp [this]

set_option maxHeartbeats 2000000 in
theorem ref_Mul (vx vy : Value) (x y : Int) (Lx Ly : Nat) (w : World) (hx : Num w vx x Lx) (hy : Num w vy y Ly) (hl : Lx ≤ 10000) (kl : Ly ≤ 10000) :
    Calls Try.prog 18 #[vx, vy] w (Tells w (x * y) (Lx + 64 * Ly)) := by
  obtain ⟨sx, xs, rfl, rx, wx, ex, lx⟩ := hx
  obtain ⟨sy, ys, rfl, ry, wy, ey, ly⟩ := hy
  obtain ⟨A, c, hA, _⟩ := rx.form
  obtain ⟨B, d, hB, _⟩ := ry.form
  subst hA hB
  have hn : Hid (signed (decide (x < 0) != decide (y < 0)) (val xs * val ys) = x * y) := by
    show _ = _
    rw [ex, ey, ← Int.natAbs_mul]
    unfold signed
    rcases Int.lt_or_le x 0 with h1 | h1 <;> rcases Int.lt_or_le y 0 with h2 | h2
    · have := Int.mul_pos_of_neg_of_neg h1 h2
      simp [h1, h2]; omega
    · have := Int.mul_nonpos_of_nonpos_of_nonneg (Int.le_of_lt h1) h2
      simp [h1, Int.not_lt.2 h2]; omega
    · have := Int.mul_nonpos_of_nonneg_of_nonpos h1 (Int.le_of_lt h2)
      simp [h2, Int.not_lt.2 h1]; omega
    · have := Int.mul_nonneg h1 h2
      simp [Int.not_lt.2 h1, Int.not_lt.2 h2]; omega
  obtain ⟨n, hxy⟩ : ∃ n, x * y = n := ⟨_, rfl⟩
  rw [hxy] at hn ⊢
  clear hxy
  generalize decide (x < 0) = bx at *
  generalize decide (y < 0) = cy at *
  clear ex ey
  have EX := Lib.hid rx; have EY := Lib.hid ry
  clear rx ry
  go_enter Try.func18, Try.ntmps18
  go_wp2
  obtain ⟨W, hW, g0, x0, x1, y0, y1, r0, r1, f0, f1, hsz⟩ := three_new w (.bool bx) (.slice A xs.length c) (.bool cy) (.slice B ys.length d) (.bool false) (.slice none 0 0) 37
  rw [hW]
  clear hW
  have e1 : w.heap.size < W.heap.size := by omega
  have e2 : w.heap.size + 1 < W.heap.size := by omega
  go_loopw [5, 6] (fun v p wr => ∃ (zs : List Nat) (q : Int), p = .int .i64 q ∧ -1 ≤ q ∧ q < 32 * (ys.length : Int) ∧ Row .u64 wr v zs ∧ Words zs ∧ Hid (val zs = val xs * (val ys / 2 ^ (q + 1).toNat)) ∧ zs.length ≤ xs.length + 2 * (32 * ys.length - (q + 1).toNat) ∧ Grew W wr)
    (fun _ p _ => (intOf p + 1).toNat)
  case atStart => exact ⟨[], _, rfl, by omega, by omega, Row.nil _ _, Words.nil, by show _ = _; rw [show (32 * (ys.length : Int) - 1 + 1).toNat = 32 * ys.length by omega, from_top wy]; rfl, by simp, Grew.refl _⟩
  case round =>
    obtain ⟨zs, q, rfl, hq0, hq1, hr, hz, hs, hlen, hg⟩ := hrel
    obtain ⟨A0, c0, rfl, _⟩ := hr.form
    by_cases hneg : q < 0
    · have hN : Hid (signed (bx != cy) (val zs) = n) := by
        have := hs.out
        rw [show (q + 1).toNat = 0 by omega, Nat.pow_zero, Nat.div_one] at this
        rw [this]; exact hn.out
      obtain ⟨a0, a1, b0, b1⟩ := four_kept hg e1 e1 e2 e2 x0 x1 y0 y1
      clear x0 x1 y0 y1
      go_wp2_with (go_at_call 25; refine (ref_make (bx != cy) _ zs n (Lx + 64 * Ly) _ hr hz (by omega) (by omega) hN.out).mono ?_; rintro e w2 ⟨v2, rfl, hN, hg2⟩; obtain ⟨A2, m2, c2, rfl⟩ := hN.form; obtain ⟨k0, k1, k2, k3, k4⟩ := place_kept (hg.trans hg2) hsz r0 r1 f0 f1)
      refine bodyPost_ret (by simp [results, Try.results18, go_sem, k0, k1]; try rfl) rfl ?_
      exact tells_of hN (g0.trans (hg.trans hg2)) k0 k1 (by omega)
    · obtain ⟨j, rfl⟩ := Int.eq_ofNat_of_zero_le (show 0 ≤ q by omega)
      have hstep : Hid (val ys / 2 ^ j = 2 * (val ys / 2 ^ (j + 1)) + val ys / 2 ^ j % 2) := from_bit _ _
      have hs' : Hid (val zs = val xs * (val ys / 2 ^ (j + 1))) := by have := hs.out; rw [show ((j : Int) + 1).toNat = j + 1 by omega] at this; exact this
      have hlen' : zs.length ≤ xs.length + 2 * (32 * ys.length - (j + 1)) := by rw [show ((j : Int) + 1).toNat = j + 1 by omega] at hlen; exact hlen
      clear hs hlen
      cases hbit : bitAt ys j
      · have hb0 : Hid (val ys / 2 ^ j % 2 = 0) := by unfold bitAt at hbit; simp at hbit; show _ = _; omega
        go_wp2_with (first | (go_at_call 29; refine (ref_doubled _ zs false _ hr hz (by omega)).mono ?_; rintro e w1 ⟨v1, zs1, rfl, hr1, hz1, hv1, hl1, hg1⟩; have HV1 := Lib.hid hv1; clear hv1; obtain ⟨a0, a1, b0, b1⟩ := four_kept (hg.trans hg1) e1 e1 e2 e2 x0 x1 y0 y1) | (go_at_call 30; refine (ref_isSet _ ys _ _ (EY.out.grew (g0.trans (hg.trans hg1))) wy (by omega) (by omega) (by omega)).mono ?_; rintro e w' ⟨rfl, rfl⟩))
        go_roundw
        case rel =>
          refine ⟨zs1, (j : Int) - 1, rfl, by omega, by omega, hr1, hz1, ?_, ?_, hg.trans hg1⟩
          · show _ = _
            rw [show ((j : Int) - 1 + 1).toNat = j by omega, HV1.out, hs'.out, hstep.out, hb0.out]
            simp [Nat.mul_left_comm]
          · rw [show ((j : Int) - 1 + 1).toNat = j by omega]; omega
        case measure => simp [intOf]
      · have hb0 : Hid (val ys / 2 ^ j % 2 = 1) := by unfold bitAt at hbit; simp at hbit; exact hbit
        go_wp2_with (first | (go_at_call 29; refine (ref_doubled _ zs false _ hr hz (by omega)).mono ?_; rintro e w1 ⟨v1, zs1, rfl, hr1, hz1, hv1, hl1, hg1⟩; have HV1 := Lib.hid hv1; clear hv1; obtain ⟨a0, a1, b0, b1⟩ := four_kept (hg.trans hg1) e1 e1 e2 e2 x0 x1 y0 y1) | (go_at_call 30; refine (ref_isSet _ ys _ _ (EY.out.grew (g0.trans (hg.trans hg1))) wy (by omega) (by omega) (by omega)).mono ?_; rintro e w' ⟨rfl, rfl⟩) | (go_at_call 26; refine (ref_joined _ _ zs1 xs _ hr1 (EX.out.grew (g0.trans (hg.trans hg1))) hz1 wx (by omega) (by omega)).mono ?_; rintro e w2 ⟨v2, zs2, rfl, hr2, hz2, hv2, hl2, hg2⟩; have HV2 := Lib.hid hv2; clear hv2))
        go_roundw
        case rel =>
          refine ⟨zs2, (j : Int) - 1, rfl, by omega, by omega, hr2, hz2, ?_, ?_, (hg.trans hg1).trans hg2⟩
          · show _ = _
            rw [show ((j : Int) - 1 + 1).toNat = j by omega, HV2.out, HV1.out, hs'.out, hstep.out, hb0.out, Nat.mul_add, Nat.mul_left_comm]
            simp
          · rw [show ((j : Int) - 1 + 1).toNat = j by omega]; omega
        case measure => simp [intOf]
end Go.Proofs.Ytckkjccaomdnpaa

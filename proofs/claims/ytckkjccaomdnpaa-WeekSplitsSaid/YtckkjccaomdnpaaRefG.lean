/-
  Contracts of the document's numbers: division, rounded down.
-/
import Derived.Test.YtckkjccaomdnpaaRefF
namespace Go.Proofs.Ytckkjccaomdnpaa
open Go.RowKit
set_option linter.unusedVariables false

/-- Four new blocks of two cells each, under one name. -/
theorem four_new (w : World) (a b c d e f g h : Value) (E : TypeId) : ∃ W, (((w.alloc (.cells #[a, b] E)).alloc (.cells #[c, d] E)).alloc (.cells #[e, f] E)).alloc (.cells #[g, h] E) = W ∧ Grew w W ∧
    (W.cell? ⟨w.heap.size, 0, none⟩ = some a ∧ W.cell? ⟨w.heap.size, 1, none⟩ = some b ∧ W.cell? ⟨w.heap.size + 1, 0, none⟩ = some c ∧ W.cell? ⟨w.heap.size + 1, 1, none⟩ = some d) ∧
    (W.cell? ⟨w.heap.size + 1 + 1, 0, none⟩ = some e ∧ W.cell? ⟨w.heap.size + 1 + 1, 1, none⟩ = some f ∧ W.frozen? ⟨w.heap.size + 1 + 1, 0, none⟩ = false ∧ W.frozen? ⟨w.heap.size + 1 + 1, 1, none⟩ = false) ∧
    (W.cell? ⟨w.heap.size + 1 + 1 + 1, 0, none⟩ = some g ∧ W.cell? ⟨w.heap.size + 1 + 1 + 1, 1, none⟩ = some h ∧ W.frozen? ⟨w.heap.size + 1 + 1 + 1, 0, none⟩ = false ∧ W.frozen? ⟨w.heap.size + 1 + 1 + 1, 1, none⟩ = false) ∧
    w.heap.size + 1 + 1 + 1 < W.heap.size := by
  refine ⟨_, rfl, ((((Grew.refl _).alloc _).alloc _).alloc _).alloc _, ⟨?_, ?_, ?_, ?_⟩, ⟨?_, ?_, ?_, ?_⟩, ⟨?_, ?_, ?_, ?_⟩, by simp⟩ <;> simp [go_sem]

/-- Two new blocks of two cells each, under one name. -/
theorem two_new (w : World) (a b c d : Value) (E : TypeId) : ∃ W, (w.alloc (.cells #[a, b] E)).alloc (.cells #[c, d] E) = W ∧ Grew w W ∧
    (W.cell? ⟨w.heap.size, 0, none⟩ = some a ∧ W.cell? ⟨w.heap.size, 1, none⟩ = some b ∧ W.cell? ⟨w.heap.size + 1, 0, none⟩ = some c ∧ W.cell? ⟨w.heap.size + 1, 1, none⟩ = some d) ∧ w.heap.size + 1 < W.heap.size := by
  refine ⟨_, rfl, ((Grew.refl _).alloc _).alloc _, ⟨?_, ?_, ?_, ?_⟩, by simp⟩ <;> simp [go_sem]

theorem NumT.parts {w : World} {v : Value} {n : Int} {L : Nat} (h : NumT w v n L) : ∃ A c xs, v = .agg #[.bool (decide (n < 0)), .slice A xs.length c] ∧ Row .u64 w (.slice A xs.length c) xs ∧ Words xs ∧ val xs = n.natAbs ∧ xs.length ≤ L ∧ Tight xs := by
  obtain ⟨sl, xs, rfl, hr, r⟩ := h
  obtain ⟨A, c, rfl, _⟩ := hr.form
  exact ⟨A, c, xs, rfl, hr, r⟩

/-- What a division tells: the quotient, rounded down, and what is left. -/
def TellsTwo (w : World) (q r : Int) (L M : Nat) (e : Ending) (w' : World) : Prop := ∃ v u, e = .returned (.tuple #[v, u]) ∧ NumT w' v q L ∧ NumT w' u r M ∧ Grew w w'

theorem field_size (x y : Value) (w : World) : Sem.run Try.prog (Instr.field 37 (.agg #[x, y]) 1) w = .ok y w := by kernel_rfl

/-- Two numbers that are stored where the call tells its results. -/
theorem tells_two {w w1 : World} {v u : Value} {q r : Int} {L M R : Nat} {x y z t : Value} {A0 A1 : Option Addr} {n0 c0 n1 c1 : Nat} {b b' : Bool} (hq : NumT w1 v q L) (hr : NumT w1 u r M) (hg : Grew w w1)
    (k0 : w1.cell? ⟨R, 0, none⟩ = some (.bool b)) (k1 : w1.cell? ⟨R, 1, none⟩ = some (.slice A0 n0 c0)) (l0 : w1.cell? ⟨R + 1, 0, none⟩ = some (.bool b')) (l1 : w1.cell? ⟨R + 1, 1, none⟩ = some (.slice A1 n1 c1)) (hR : w.heap.size ≤ R) :
    TellsTwo w q r L M (.returned (.tuple #[v, u])) ((((w1.setCell ⟨R, 0, none⟩ x).setCell ⟨R, 1, none⟩ y).setCell ⟨R + 1, 0, none⟩ z).setCell ⟨R + 1, 1, none⟩ t) := by
  have keep : ∀ {v q L}, NumT w1 v q L → NumT ((((w1.setCell ⟨R, 0, none⟩ x).setCell ⟨R, 1, none⟩ y).setCell ⟨R + 1, 0, none⟩ z).setCell ⟨R + 1, 1, none⟩ t) v q L := fun h => by
    refine (((h.set k0 (fun _ _ h => by cases h)).set (u := .slice A0 n0 c0) ?_ (fun _ _ h => by cases h)).set (u := .bool b') ?_ (fun _ _ h => by cases h)).set (u := .slice A1 n1 c1) ?_ (fun _ _ h => by cases h)
    · rw [World.cell?_setCell_other _ _ _ _ (by simp)]; exact k1
    · rw [World.cell?_setCell_other _ _ _ _ (by simp), World.cell?_setCell_other _ _ _ _ (by simp)]; exact l0
    · rw [World.cell?_setCell_other _ _ _ _ (by simp), World.cell?_setCell_other _ _ _ _ (by simp), World.cell?_setCell_other _ _ _ _ (by simp)]; exact l1
  exact ⟨v, u, rfl, keep hq, keep hr, (((hg.setCell hR _).setCell hR _).setCell (by simp; omega) _).setCell (by simp; omega) _⟩

theorem TellsTwo.drew {w : World} {q r : Int} {L M : Nat} {e : Ending} {w' : World} (h : TellsTwo w q r L M e w') : TellsTwo w q r L M e w'.drew := by
  obtain ⟨v, u, he, hq, hr, hg⟩ := h
  exact ⟨v, u, he, hq.grew (Grew.refl _).drew, hr.grew (Grew.refl _).drew, hg.drew⟩
theorem NumT.zero {w : World} {b : Value} {A : Option Addr} {n c L : Nat} {r : Int} (h : NumT w (.agg #[b, .slice A n c]) r L) : n = 0 ↔ r = 0 := by
  obtain ⟨sl, xs, e, hr, hw, hv, hl, ht⟩ := h
  simp only [Value.agg.injEq, Array.mk.injEq, List.cons.injEq, and_true] at e
  obtain ⟨A', c', e', _⟩ := hr.form
  rw [e'] at e
  simp only [Value.slice.injEq] at e
  constructor
  · intro h0
    have : xs = [] := List.eq_nil_of_length_eq_zero (by omega)
    rw [this, val_nil] at hv
    omega
  · intro h0
    rcases Nat.eq_zero_or_pos n with h1 | h1
    · exact h1
    · exfalso
      have := ht.low (by intro e2; rw [e2] at e; simp at e; omega)
      have := pos_pow (xs.length - 1)
      omega

theorem six_cells {W w' : World} {p q r : Nat} {a b c d e f : Value} (g : Grew W w') (hp : p < W.heap.size) (hq : q < W.heap.size) (hr : r < W.heap.size)
    (h1 : W.cell? ⟨p, 0, none⟩ = some a) (h2 : W.cell? ⟨p, 1, none⟩ = some b) (h3 : W.cell? ⟨q, 0, none⟩ = some c) (h4 : W.cell? ⟨q, 1, none⟩ = some d) (h5 : W.cell? ⟨r, 0, none⟩ = some e) (h6 : W.cell? ⟨r, 1, none⟩ = some f) :
    w'.cell? ⟨p, 0, none⟩ = some a ∧ w'.cell? ⟨p, 1, none⟩ = some b ∧ w'.cell? ⟨q, 0, none⟩ = some c ∧ w'.cell? ⟨q, 1, none⟩ = some d ∧ w'.cell? ⟨r, 0, none⟩ = some e ∧ w'.cell? ⟨r, 1, none⟩ = some f :=
  ⟨(g.cell hp).trans h1, (g.cell hp).trans h2, (g.cell hq).trans h3, (g.cell hq).trans h4, (g.cell hr).trans h5, (g.cell hr).trans h6⟩
theorem six_set {w : World} {p q r : Nat} {a b c d e f x y : Value} {R : Nat}
    (h : w.cell? ⟨p, 0, none⟩ = some a ∧ w.cell? ⟨p, 1, none⟩ = some b ∧ w.cell? ⟨q, 0, none⟩ = some c ∧ w.cell? ⟨q, 1, none⟩ = some d ∧ w.cell? ⟨r, 0, none⟩ = some e ∧ w.cell? ⟨r, 1, none⟩ = some f) (hp : p ≠ R) (hq : q ≠ R) (hr : r ≠ R) :
    let w' := (w.setCell ⟨R, 0, none⟩ x).setCell ⟨R, 1, none⟩ y
    w'.cell? ⟨p, 0, none⟩ = some a ∧ w'.cell? ⟨p, 1, none⟩ = some b ∧ w'.cell? ⟨q, 0, none⟩ = some c ∧ w'.cell? ⟨q, 1, none⟩ = some d ∧ w'.cell? ⟨r, 0, none⟩ = some e ∧ w'.cell? ⟨r, 1, none⟩ = some f := by
  have o : ∀ {s m n : Nat}, s ≠ R → (⟨R, n, none⟩ : Addr) ≠ ⟨s, m, none⟩ := fun h e => h (by injection e with e; exact e.symm)
  have one : ∀ {s m : Nat} {v : Value}, s ≠ R → w.cell? ⟨s, m, none⟩ = some v → ((w.setCell ⟨R, 0, none⟩ x).setCell ⟨R, 1, none⟩ y).cell? ⟨s, m, none⟩ = some v := fun hs hv => by
    rw [World.cell?_setCell_other _ _ _ _ (o hs), World.cell?_setCell_other _ _ _ _ (o hs)]; exact hv
  obtain ⟨h1, h2, h3, h4, h5, h6⟩ := h
  exact ⟨one hp h1, one hp h2, one hq h3, one hq h4, one hr h5, one hr h6⟩

/-- .. of a number below 0 of which something is left: one less, and what is left of the divisor. -/
def DownPost (w : World) (bx : Bool) (q : Int) (R D L M : Nat) (e : Ending) (w' : World) : Prop :=
  if bx = true ∧ 0 < R then TellsTwo w (q - 1) ((D : Int) - (R : Int)) (L + 3) (M + 1) e w' else TellsTwo w q (R : Int) (L + 3) (M + 1) e w'

set_option maxHeartbeats 4000000 in
theorem down_loop (bx : Bool) (qn : Int) (xs ys : List Nat) (A B : Option Addr) (c d : Nat) (w : World) (rx : Row .u64 w (.slice A xs.length c) xs) (ry : Row .u64 w (.slice B ys.length d) ys) (wx : Words xs) (wy : Words ys) (hl : xs.length ≤ 5000) (kl : ys.length ≤ 5000) (hD : 0 < val ys) (hqn : Hid (signed bx (val xs / val ys) = qn)) :
    Calls Try.prog 22 #[.agg #[.bool bx, .slice A xs.length c], .agg #[.bool false, .slice B ys.length d]] w (DownPost w bx qn (val xs % val ys) (val ys) (32 * xs.length) (32 * xs.length + ys.length)) := by
  have EX := Lib.hid rx; have EY := Lib.hid ry
  clear rx ry
  go_enter Try.func22, Try.ntmps22
  go_wp2
  obtain ⟨W, hW, g0, ⟨x0, x1, y0, y1⟩, ⟨p0, p1, p2, p3⟩, ⟨q0, q1, q2, q3⟩, hsz⟩ := four_new w (.bool bx) (.slice A xs.length c) (.bool false) (.slice B ys.length d) (.bool false) (.slice none 0 0) (.bool false) (.slice none 0 0) 37
  rw [hW]
  clear hW
  have e1 : w.heap.size < W.heap.size := by omega
  have e2 : w.heap.size + 1 < W.heap.size := by omega
  go_loopw [6, 7, 8] (fun v u p wr => ∃ (zs ls : List Nat) (q : Int), p = .int .i64 q ∧ -1 ≤ q ∧ q < 32 * (xs.length : Int) ∧ Row .u64 wr v zs ∧ Words zs ∧ Hid (val zs = val xs / 2 ^ (q + 1).toNat / val ys) ∧ zs.length ≤ 32 * xs.length - (q + 1).toNat ∧ Row .u64 wr u ls ∧ Words ls ∧ Hid (val ls = val xs / 2 ^ (q + 1).toNat % val ys) ∧ ls.length ≤ 32 * xs.length - (q + 1).toNat ∧ Grew W wr)
    (fun _ _ p _ => (intOf p + 1).toNat)
  case atStart => exact ⟨[], [], _, rfl, by omega, by omega, Row.nil _ _, Words.nil, by show _ = _; rw [show (32 * (xs.length : Int) - 1 + 1).toNat = 32 * xs.length by omega, from_top wx, Nat.zero_div]; rfl, by simp, Row.nil _ _, Words.nil, by show _ = _; rw [show (32 * (xs.length : Int) - 1 + 1).toNat = 32 * xs.length by omega, from_top wx, Nat.zero_mod]; rfl, by simp, Grew.refl _⟩
  case round =>
    obtain ⟨zs, ls, q, rfl, hq0, hq1, rz, wz, hz, lz, rl, wl, hls, ll, hg⟩ := hrel
    obtain ⟨A0, c0, rfl, _⟩ := rz.form
    obtain ⟨A1, c1, rfl, _⟩ := rl.form
    obtain ⟨a0, a1, b0, b1⟩ := four_kept hg e1 e1 e2 e2 x0 x1 y0 y1
    by_cases hneg : q < 0
    · have hzv : Hid (val zs = val xs / val ys) := by have := hz.out; rw [show (q + 1).toNat = 0 by omega, Nat.pow_zero, Nat.div_one] at this; exact this
      have hlv : Hid (val ls = val xs % val ys) := by have := hls.out; rw [show (q + 1).toNat = 0 by omega, Nat.pow_zero, Nat.div_one] at this; exact this
      have hR : val xs % val ys < val ys := Nat.mod_lt _ hD
      clear hz hls
      generalize hRR : val xs % val ys = R at hlv hR ⊢
      have HRR := Lib.hid hRR
      clear hRR
      have hq' : Hid (signed bx (val zs) = qn) := by rw [hzv.out]; exact hqn.out
      have hl' : Hid (signed false (val ls) = (R : Int)) := by rw [hlv.out]; rfl
      cases bx
      · go_wp2_with (first
          | (go_at_call 25; ((with_reducible refine (ref_make false _ zs qn (32 * xs.length + 3) _ rz wz (by omega) (by omega) hq'.out).mono ?_); rintro e w5 ⟨v5, rfl, hN5, hg5⟩; obtain ⟨A5, n5, c5, rfl⟩ := hN5.form; generalize decide (qn < 0) = qb at hN5 ⊢))
          | (go_at_call 25; ((with_reducible refine (ref_make false _ ls R (32 * xs.length + ys.length + 1) _ (rl.grew hg5) wl (by omega) (by omega) hl'.out).mono ?_); rintro e w6 ⟨v6, rfl, hN6, hg6⟩; obtain ⟨A6, n6, c6, rfl⟩ := hN6.form; generalize decide ((R : Int) < 0) = rb at hN6 ⊢; obtain ⟨d0, d1, -, -⟩ := four_kept (hg5.trans hg6) (Nat.lt_of_lt_of_le e1 hg.size) (Nat.lt_of_lt_of_le e1 hg.size) (Nat.lt_of_lt_of_le e2 hg.size) (Nat.lt_of_lt_of_le e2 hg.size) a0 a1 b0 b1; have z1 : w.heap.size < w6.heap.size := by have := hg.size; have := hg5.size; have := hg6.size; omega)))
        obtain ⟨V, hV, gV, ⟨s0, s1, t0, t1⟩, hV2⟩ := two_new w6 (.bool qb) (.slice A5 n5 c5) (.bool rb) (.slice A6 n6 c6) 37
        rw [hV]
        clear hV
        have GV : Grew W V := ((hg.trans hg5).trans hg6).trans gV
        obtain ⟨k0, k1, k2, k3, k4⟩ := place_kept GV (r := w.heap.size + 1 + 1) (by omega) p0 p1 p2 p3
        obtain ⟨l0, l1, l2, l3, l4⟩ := place_kept GV (r := w.heap.size + 1 + 1 + 1) (by omega) q0 q1 q2 q3
        have i1 : w.heap.size + 1 + 1 + 1 < w6.heap.size := by have := hg.size; have := hg5.size; have := hg6.size; omega
        replace hN5 := (hN5.grew hg6).grew gV
        replace hN6 := hN6.grew gV
        replace g0 := g0.trans GV
        clear EX EY wx wy hl kl hD x0 x1 y0 y1 p0 p1 p2 p3 q0 q1 q2 q3 hsz e1 e2 hq0 hq1 wz lz wl ll hg rz rl a0 a1 b0 b1 hneg hzv hlv hl' hqn hq' hg5 hg6 d0 d1 gV GV hV2
        go_region_held3 (fun w' => w'.cell? ⟨w6.heap.size, 0, none⟩ = some (.bool qb) ∧ w'.cell? ⟨w6.heap.size, 1, none⟩ = some (.slice A5 n5 c5) ∧ w'.cell? ⟨w6.heap.size + 1, 0, none⟩ = some (.bool rb) ∧ w'.cell? ⟨w6.heap.size + 1, 1, none⟩ = some (.slice A6 n6 c6))
          (first | exact ⟨s0, s1, t0, t1⟩ | exact four_set ⟨s0, s1, t0, t1⟩ (by simp; omega) (by simp; omega) (by simp; omega) (by simp; omega) | exact four_set (four_set ⟨s0, s1, t0, t1⟩ (by simp; omega) (by simp; omega) (by simp; omega) (by simp; omega)) (by simp; omega) (by simp; omega) (by simp; omega) (by simp; omega))
          (first | fail)
        go_wp2
        refine bodyPost_ret (v := .tuple #[.agg #[.bool qb, .slice A5 n5 c5], .agg #[.bool rb, .slice A6 n6 c6]]) (by simp [results, Try.results22, go_sem, k0, k1, l0, l1]) rfl ?_
        rw [HRR.out, DownPost, if_neg (by simp; try omega)]
        exact (tells_two hN5 hN6 g0 k0 k1 l0 l1 (by omega)).drew
      · by_cases hR0 : R ≤ 0
        · go_wp2_with (first
            | (go_at_call 25; ((with_reducible refine (ref_make true _ zs qn (32 * xs.length + 3) _ rz wz (by omega) (by omega) hq'.out).mono ?_); rintro e w5 ⟨v5, rfl, hN5, hg5⟩; obtain ⟨A5, n5, c5, rfl⟩ := hN5.form; generalize decide (qn < 0) = qb at hN5 ⊢))
            | (go_at_call 25; ((with_reducible refine (ref_make false _ ls R (32 * xs.length + ys.length + 1) _ (rl.grew hg5) wl (by omega) (by omega) hl'.out).mono ?_); rintro e w6 ⟨v6, rfl, hN6, hg6⟩; obtain ⟨A6, n6, c6, rfl⟩ := hN6.form; generalize decide ((R : Int) < 0) = rb at hN6 ⊢; obtain ⟨d0, d1, d2, d3⟩ := four_kept (hg5.trans hg6) (Nat.lt_of_lt_of_le e1 hg.size) (Nat.lt_of_lt_of_le e1 hg.size) (Nat.lt_of_lt_of_le e2 hg.size) (Nat.lt_of_lt_of_le e2 hg.size) a0 a1 b0 b1; have z1 : w.heap.size < w6.heap.size := (by have := hg.size; have := hg5.size; have := hg6.size; omega); have hn6 : (n6 : Int) ≤ 0 := by have := hN6.zero; omega)))
          obtain ⟨V, hV, gV, ⟨s0, s1, t0, t1⟩, hV2⟩ := two_new w6 (.bool qb) (.slice A5 n5 c5) (.bool rb) (.slice A6 n6 c6) 37
          rw [hV]
          clear hV
          have GV : Grew W V := ((hg.trans hg5).trans hg6).trans gV
          obtain ⟨k0, k1, k2, k3, k4⟩ := place_kept GV (r := w.heap.size + 1 + 1) (by omega) p0 p1 p2 p3
          obtain ⟨l0, l1, l2, l3, l4⟩ := place_kept GV (r := w.heap.size + 1 + 1 + 1) (by omega) q0 q1 q2 q3
          have i1 : w.heap.size + 1 + 1 + 1 < w6.heap.size := by have := hg.size; have := hg5.size; have := hg6.size; omega
          replace hN5 := (hN5.grew hg6).grew gV
          replace hN6 := hN6.grew gV
          replace g0 := g0.trans GV
          clear EX EY wx wy hl kl hD x0 x1 y0 y1 p0 p1 p2 p3 q0 q1 q2 q3 hsz e1 e2 hq0 hq1 wz lz wl ll hg rz rl a0 a1 b0 b1 hneg hzv hlv hl' hqn hq' hg5 hg6 d0 d1 d2 d3 gV GV hV2 hn6
          go_region_held3 (fun w' => w'.cell? ⟨w6.heap.size, 0, none⟩ = some (.bool qb) ∧ w'.cell? ⟨w6.heap.size, 1, none⟩ = some (.slice A5 n5 c5) ∧ w'.cell? ⟨w6.heap.size + 1, 0, none⟩ = some (.bool rb) ∧ w'.cell? ⟨w6.heap.size + 1, 1, none⟩ = some (.slice A6 n6 c6))
            (first | exact ⟨s0, s1, t0, t1⟩ | exact four_set ⟨s0, s1, t0, t1⟩ (by simp; omega) (by simp; omega) (by simp; omega) (by simp; omega) | exact four_set (four_set ⟨s0, s1, t0, t1⟩ (by simp; omega) (by simp; omega) (by simp; omega) (by simp; omega)) (by simp; omega) (by simp; omega) (by simp; omega) (by simp; omega))
            (first | fail)
          go_wp2
          refine bodyPost_ret (v := .tuple #[.agg #[.bool qb, .slice A5 n5 c5], .agg #[.bool rb, .slice A6 n6 c6]]) (by simp [results, Try.results22, go_sem, k0, k1, l0, l1]) rfl ?_
          rw [HRR.out, DownPost, if_neg (by simp; try omega)]
          exact (tells_two hN5 hN6 g0 k0 k1 l0 l1 (by omega)).drew
        · go_wp2_with (first
            | (go_at_call 25; ((with_reducible refine (ref_make true _ zs qn (32 * xs.length + 2) _ rz wz (by omega) (by omega) hq'.out).mono ?_); rintro e w5 ⟨v5, rfl, hN5, hg5⟩; obtain ⟨A5, n5, c5, rfl⟩ := hN5.form; generalize decide (qn < 0) = qb at hN5 ⊢))
            | (go_at_call 25; ((with_reducible refine (ref_make false _ ls R (32 * xs.length + ys.length) _ (rl.grew hg5) wl (by omega) (by omega) hl'.out).mono ?_); rintro e w6 ⟨v6, rfl, hN6, hg6⟩; obtain ⟨A6, n6, c6, rfl⟩ := hN6.form; generalize decide ((R : Int) < 0) = rb at hN6 ⊢; obtain ⟨d0, d1, d2, d3⟩ := four_kept (hg5.trans hg6) (Nat.lt_of_lt_of_le e1 hg.size) (Nat.lt_of_lt_of_le e1 hg.size) (Nat.lt_of_lt_of_le e2 hg.size) (Nat.lt_of_lt_of_le e2 hg.size) a0 a1 b0 b1; have z1 : w.heap.size < w6.heap.size := (by have := hg.size; have := hg5.size; have := hg6.size; omega); have hn6 : (0 : Int) < (n6 : Int) := by have := hN6.zero; omega)))
          obtain ⟨V, hV, gV, ⟨s0, s1, t0, t1⟩, hV2⟩ := two_new w6 (.bool qb) (.slice A5 n5 c5) (.bool rb) (.slice A6 n6 c6) 37
          rw [hV]
          clear hV
          have GV : Grew W V := ((hg.trans hg5).trans hg6).trans gV
          obtain ⟨k0, k1, k2, k3, k4⟩ := place_kept GV (r := w.heap.size + 1 + 1) (by omega) p0 p1 p2 p3
          obtain ⟨l0, l1, l2, l3, l4⟩ := place_kept GV (r := w.heap.size + 1 + 1 + 1) (by omega) q0 q1 q2 q3
          have i1 : w.heap.size + 1 + 1 + 1 < w6.heap.size := by have := hg.size; have := hg5.size; have := hg6.size; omega
          have hy : Num V (.agg #[.bool false, .slice B ys.length d]) (val ys : Int) ys.length := ⟨_, ys, by simp, EY.out.grew (g0.trans GV), wy, by simp, Nat.le_refl _⟩
          replace hN5 := (hN5.grew hg6).grew gV
          replace hN6 := hN6.grew gV
          have d2' := (gV.cell (p := ⟨w.heap.size + 1, 0, none⟩) (by show w.heap.size + 1 < w6.heap.size; omega)).trans d2
          have d3' := (gV.cell (p := ⟨w.heap.size + 1, 1, none⟩) (by show w.heap.size + 1 < w6.heap.size; omega)).trans d3
          replace g0 := g0.trans GV
          have i2 : w.heap.size + 1 < V.heap.size := by omega
          have i3 : w6.heap.size < V.heap.size := by omega
          have lx : 32 * xs.length + 2 ≤ 900000 := by omega
          have ly : 32 * xs.length + ys.length ≤ 900000 := by omega
          have ly' : ys.length ≤ 900000 := by omega
          have HR0 := Lib.hid hR0
          have G : Grew V V.drew := (Grew.refl V).drew
          clear EX EY wx wy hl kl hD x0 x1 y0 y1 p0 p1 p2 p3 q0 q1 q2 q3 hsz e1 e2 hq0 hq1 wz lz wl ll hg rz rl a0 a1 b0 b1 hneg hzv hlv hl' hqn hq' hg5 hg6 d0 d1 d2 d3 gV GV hn6 hR0
          go_region_held3 (fun w' => w'.cell? ⟨w6.heap.size, 0, none⟩ = some (.bool qb) ∧ w'.cell? ⟨w6.heap.size, 1, none⟩ = some (.slice A5 n5 c5) ∧ w'.cell? ⟨w.heap.size + 1, 0, none⟩ = some (.bool false) ∧ w'.cell? ⟨w.heap.size + 1, 1, none⟩ = some (.slice B ys.length d) ∧ w'.cell? ⟨w6.heap.size + 1, 0, none⟩ = some (.bool rb) ∧ w'.cell? ⟨w6.heap.size + 1, 1, none⟩ = some (.slice A6 n6 c6))
            (first | exact six_cells G i3 i2 hV2 s0 s1 d2' d3' t0 t1 | exact six_set (six_cells G i3 i2 hV2 s0 s1 d2' d3' t0 t1) (by omega) (by omega) (by omega) | exact six_set (six_set (six_cells G i3 i2 hV2 s0 s1 d2' d3' t0 t1) (by omega) (by omega) (by omega)) (by omega) (by omega) (by omega))
            (first
              | (go_at_call 19; refine (ref_Of 1 _ (by omega)).mono ?_; rintro e w7 ⟨v7, rfl, hN7, hg7⟩; replace G := G.trans hg7)
              | (go_at_call 23; ((with_reducible refine (ref_Sub _ v7 qn 1 (32 * xs.length + 2) 2 _ (hN5.grew G).num hN7.num lx (by omega)).mono ?_); rintro e w8 ⟨v8, rfl, hN8, hg8⟩; replace G := G.trans hg8; obtain ⟨A8, n8, c8, rfl⟩ := hN8.form; generalize decide (qn - 1 < 0) = b8 at hN8 ⊢))
              | (go_at_call 23; ((with_reducible refine (ref_Sub _ _ (val ys : Int) (R : Int) ys.length (32 * xs.length + ys.length) _ (hy.grew G) (hN6.grew G).num ly' ly).mono ?_); rintro e w9 ⟨v9, rfl, hN9, hg9⟩; replace G := G.trans hg9; obtain ⟨A9, n9, c9, rfl⟩ := hN9.form; generalize decide ((val ys : Int) - (R : Int) < 0) = b9 at hN9 ⊢; obtain ⟨k0', k1', k2', k3', k4'⟩ := place_kept G k4 k0 k1 k2 k3; obtain ⟨l0', l1', l2', l3', l4'⟩ := place_kept G l4 l0 l1 l2 l3)))
          go_wp2
          refine bodyPost_ret (v := .tuple #[.agg #[.bool b8, .slice A8 n8 c8], .agg #[.bool b9, .slice A9 n9 c9]]) (by simp [results, Try.results22, go_sem, k0', k1', l0', l1']) rfl ?_
          rw [HRR.out, DownPost, if_pos ⟨rfl, by have := HR0.out; omega⟩]
          exact tells_two ((hN8.grew hg9).more (by omega)) (hN9.more (by omega)) (g0.trans G) k0' k1' l0' l1' (by omega)
    · obtain ⟨j, rfl⟩ := Int.eq_ofNat_of_zero_le (show 0 ≤ q by omega)
      have ej : ((j : Int) + 1).toNat = j + 1 := by omega
      rw [ej] at hz lz hls ll
      clear ej
      obtain ⟨bt, hbt⟩ : ∃ b, bitAt xs j = b := ⟨_, rfl⟩
      have hbn : Hid (bt.toNat = val xs / 2 ^ j % 2) := by show _ = _; exact bool_nat _ _ (by rw [← hbt]; rfl) (by omega)
      have hbt2 : bt.toNat < 2 := by cases bt <;> simp
      have hstep : Hid (val xs / 2 ^ j = 2 * (val xs / 2 ^ (j + 1)) + bt.toNat) := by show _ = _; rw [hbn.out]; exact from_bit _ _
      obtain ⟨dv, dm⟩ := div_round (n := val xs / 2 ^ (j + 1)) (b := bt.toNat) hD hbt2
      rw [← hstep.out, ← hz.out, ← hls.out] at dv
      rw [← hstep.out, ← hls.out] at dm
      have DV := Lib.hid dv; have DM := Lib.hid dm
      clear dv dm
      by_cases hf : val ys ≤ 2 * val ls + bt.toNat
      · have hc : Hid (decide (0 ≤ cmpOf (2 * val ls + bt.toNat) (val ys)) = true) := by show _ = _; unfold cmpOf; rw [decide_eq_true]; split <;> (try split) <;> omega
        have fl := field_size
        go_wp2_with (first
          | (go_at_call 30; refine (ref_isSet _ xs _ _ (EX.out.grew (g0.trans hg)) wx (by omega) (by omega) (by omega)).mono ?_; rintro e w' ⟨rfl, rfl⟩)
          | (go_at_call 29; ((with_reducible refine (ref_doubled _ ls bt _ rl wl (by omega)).mono ?_); rintro e w1 ⟨v1, zs1, rfl, hr1, hz1, hv1, hl1, hg1⟩; obtain ⟨b0', b1'⟩ := And.intro (hg1.cell (Nat.lt_of_lt_of_le e2 hg.size) |>.trans b0) (hg1.cell (Nat.lt_of_lt_of_le e2 hg.size) |>.trans b1); have HV1 := Lib.hid hv1; clear hv1))
          | (go_at_call 27; refine (ref_larger _ _ zs1 ys _ hr1 (EY.out.grew (g0.trans (hg.trans hg1))) hz1 wy (by omega) (by omega)).mono ?_; rw [HV1.out]; rintro e w' ⟨rfl, rfl⟩; have hc := hc.out)
          | (go_at_call 28; refine (ref_parted _ _ zs1 ys _ hr1 (EY.out.grew (g0.trans (hg.trans hg1))) hz1 wy (by omega) (by omega) (by rw [HV1.out]; exact hf)).mono ?_; rintro e w3 ⟨v3, zs3, rfl, hr3, hz3, hv3, hl3, hg3⟩; rw [HV1.out] at hv3; have HV3 := Lib.hid hv3; clear hv3)
          | (go_at_call 25; refine (ref_made false _ zs3 _ hr3 hz3 (by omega)).mono ?_; rintro e w4 ⟨v4, rfl, hN4, hg4⟩; obtain ⟨A4, c4, ls4, rfl, hr4, hw4, hv4, hl4, _⟩ := hN4.parts; have HV4 := Lib.hid hv4; clear hv4 hN4; generalize decide (signed false (val zs3) < 0) = dc)
          | (go_at_call 29; ((with_reducible refine (ref_doubled _ zs true _ (rz.grew ((hg1.trans hg3).trans hg4)) wz (by omega)).mono ?_); rintro e w2 ⟨v2, zs2, rfl, hr2, hz2, hv2, hl2, hg2⟩; have HV2 := Lib.hid hv2; clear hv2)))
        go_roundw
        case rel =>
          refine ⟨zs2, ls4, (j : Int) - 1, rfl, by omega, by omega, hr2, hz2, ?_, ?_, hr4.grew hg2, hw4, ?_, ?_, (((hg.trans hg1).trans hg3).trans hg4).trans hg2⟩
          · show _ = _
            rw [show ((j : Int) - 1 + 1).toNat = j by omega, HV2.out, DV.out, if_pos hf]; rfl
          · rw [show ((j : Int) - 1 + 1).toNat = j by omega]; omega
          · show _ = _
            rw [show ((j : Int) - 1 + 1).toNat = j by omega, HV4.out, signed_abs, HV3.out, DM.out, if_pos hf]
          · rw [show ((j : Int) - 1 + 1).toNat = j by omega]; omega
        case measure => simp [intOf]
      · have hc : Hid (decide (0 ≤ cmpOf (2 * val ls + bt.toNat) (val ys)) = false) := by show _ = _; unfold cmpOf; rw [if_neg (by omega), if_pos (by omega)]; rfl
        go_wp2_with (first
          | (go_at_call 30; refine (ref_isSet _ xs _ _ (EX.out.grew (g0.trans hg)) wx (by omega) (by omega) (by omega)).mono ?_; rintro e w' ⟨rfl, rfl⟩)
          | (go_at_call 29; ((with_reducible refine (ref_doubled _ ls bt _ rl wl (by omega)).mono ?_); rintro e w1 ⟨v1, zs1, rfl, hr1, hz1, hv1, hl1, hg1⟩; obtain ⟨b0', b1'⟩ := And.intro (hg1.cell (Nat.lt_of_lt_of_le e2 hg.size) |>.trans b0) (hg1.cell (Nat.lt_of_lt_of_le e2 hg.size) |>.trans b1); have HV1 := Lib.hid hv1; clear hv1))
          | (go_at_call 27; refine (ref_larger _ _ zs1 ys _ hr1 (EY.out.grew (g0.trans (hg.trans hg1))) hz1 wy (by omega) (by omega)).mono ?_; rw [HV1.out]; rintro e w' ⟨rfl, rfl⟩; have hc := hc.out)
          | (go_at_call 29; ((with_reducible refine (ref_doubled _ zs false _ (rz.grew hg1) wz (by omega)).mono ?_); rintro e w2 ⟨v2, zs2, rfl, hr2, hz2, hv2, hl2, hg2⟩; have HV2 := Lib.hid hv2; clear hv2)))
        go_roundw
        case rel =>
          refine ⟨zs2, zs1, (j : Int) - 1, rfl, by omega, by omega, hr2, hz2, ?_, ?_, hr1.grew hg2, hz1, ?_, ?_, (hg.trans hg1).trans hg2⟩
          · show _ = _
            rw [show ((j : Int) - 1 + 1).toNat = j by omega, HV2.out, DV.out, if_neg hf]; rfl
          · rw [show ((j : Int) - 1 + 1).toNat = j by omega]; omega
          · show _ = _
            rw [show ((j : Int) - 1 + 1).toNat = j by omega, HV1.out, DM.out, if_neg hf]
          · rw [show ((j : Int) - 1 + 1).toNat = j by omega]; omega
        case measure => simp [intOf]
end Go.Proofs.Ytckkjccaomdnpaa

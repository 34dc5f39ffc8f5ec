/-
  Contracts of the document's quotients.
-/
import Derived.Test.YtngkbheahepkpaaRefI
import Derived.Test.YtngkbheahepkpaaSatA
namespace Go.Proofs.Ytngkbheahepkpaa
open Go.RowKit
set_option linter.unusedVariables false

theorem up_neg (n d : Int) (hd : 0 < d) : (n + (d - 1)) / d = -((-n) / d) := by
  have h1 := Int.mul_ediv_add_emod (-n) d
  have h2 := Int.emod_nonneg (-n) (show d ≠ 0 by omega)
  have h3 := Int.emod_lt_of_pos (-n) hd
  generalize (-n) / d = q at *
  have e : n + (d - 1) = (d - 1 - (-n) % d) + d * (-q) := by rw [Int.mul_neg]; omega
  rw [e, Int.add_mul_ediv_left _ _ (by omega), Int.ediv_eq_zero_of_lt (by omega) (by omega)]
  omega

/-- A new block of two cells, under one name. -/
theorem one_new (w : World) (a b : Value) (E : TypeId) : ∃ W, w.alloc (.cells #[a, b] E) = W ∧ Grew w W ∧ W.cell? ⟨w.heap.size, 0, none⟩ = some a ∧ W.cell? ⟨w.heap.size, 1, none⟩ = some b ∧ w.heap.size < W.heap.size := by
  refine ⟨_, rfl, (Grew.refl _).alloc _, ?_, ?_, by simp⟩ <;> simp [go_sem]
theorem two_keep {W w' : World} {p : Nat} {a b : Value} (g : Grew W w') (hp : p < W.heap.size) (h1 : W.cell? ⟨p, 0, none⟩ = some a) (h2 : W.cell? ⟨p, 1, none⟩ = some b) : w'.cell? ⟨p, 0, none⟩ = some a ∧ w'.cell? ⟨p, 1, none⟩ = some b :=
  ⟨(g.cell hp).trans h1, (g.cell hp).trans h2⟩

set_option maxHeartbeats 2000000 in
theorem quot_up (a b d : Int) (w : World) (ha : -9223372036854775808 ≤ a ∧ a ≤ 9223372036854775807) (hb : -9223372036854775808 ≤ b ∧ b ≤ 9223372036854775807) (hd : -9223372036854775808 ≤ d ∧ d ≤ 9223372036854775807) (hpos : 0 < d) :
    Calls Try.prog 20 #[.int .i64 a, .int .i64 b, .int .i64 d, .bool true] w fun e w' => e = .returned (.int .i64 (upOf a b d)) ∧ Grew w w' := by
  have HU : Hid (held (-(-(a * b) / d)) = upOf a b d) := by show _ = _; rw [upOf, if_neg (by omega), up_neg _ _ hpos]
  obtain ⟨n, hn⟩ : ∃ n, a * b = n := ⟨_, rfl⟩
  rw [hn] at HU
  have HN := Lib.hid hn
  clear hn
  go_enter Try.func20, Try.ntmps20
  go_wp2_with fail
  refine (ref_Of a _ ha).mono ?_
  rintro e w1 ⟨v1, rfl, hN1, hg1⟩
  go_wp2_with fail
  refine (ref_Of b _ hb).mono ?_
  rintro e w2 ⟨v2, rfl, hN2, hg2⟩
  go_wp2_with fail
  refine (ref_Mul _ _ a b 2 2 _ (hN1.grew hg2).num hN2.num (by omega) (by omega)).mono ?_
  rw [HN.out]
  rintro e w3 ⟨v3, rfl, hN3, hg3⟩
  obtain ⟨A3, n3, c3, rfl⟩ := hN3.form
  generalize decide (n < 0) = pb at hN3 ⊢
  go_wp2_with fail
  obtain ⟨W, hW, g0, x0, x1, e1⟩ := one_new w3 (.bool pb) (.slice A3 n3 c3) 24
  rw [hW]
  clear hW
  replace hN3 := hN3.grew g0
  replace g0 := ((hg1.trans hg2).trans hg3).trans g0
  have G : Grew W W.drew := (Grew.refl W).drew
  clear hN1 hN2 hg1 hg2 hg3
  go_region_held3 (fun w' => w'.cell? ⟨w3.heap.size, 0, none⟩ = some (.bool pb) ∧ w'.cell? ⟨w3.heap.size, 1, none⟩ = some (.slice A3 n3 c3))
    (exact two_keep G e1 x0 x1)
    (first
      | (go_at_call 7; refine (ref_Of d _ hd).mono ?_; rintro e w4 ⟨v4, rfl, hN4, hg4⟩; replace G := G.trans hg4)
      | (go_at_call 36; refine (ref_Up _ _ n d (2 + 64 * 2) 2 _ (hN3.grew G).num hN4.num (by omega) (by omega) hpos).mono ?_; rintro e w5 ⟨v5, rfl, hN5, hg5⟩; replace G := G.trans hg5)
      | (go_at_call 9; refine (ref_Held _ _ _ _ hN5 (by omega)).mono ?_; rw [HU.out]; rintro e w6 ⟨rfl, hg6⟩; replace G := G.trans hg6))
  go_wp2
  go_ret
  exact ⟨rfl, g0.trans G⟩

set_option maxHeartbeats 4000000 in
theorem quot_down (a b d : Int) (w : World) (ha : -9223372036854775808 ≤ a ∧ a ≤ 9223372036854775807) (hb : -9223372036854775808 ≤ b ∧ b ≤ 9223372036854775807) (hd : -9223372036854775808 ≤ d ∧ d ≤ 9223372036854775807) (hpos : 0 < d) :
    Calls Try.prog 20 #[.int .i64 a, .int .i64 b, .int .i64 d, .bool false] w fun e w' => e = .returned (.int .i64 (downOf a b d)) ∧ Grew w w' := by
  have HU : Hid (held (a * b / d) = downOf a b d) := by show _ = _; rw [downOf, if_neg (by omega)]
  obtain ⟨n, hn⟩ : ∃ n, a * b = n := ⟨_, rfl⟩
  rw [hn] at HU
  have HN := Lib.hid hn
  clear hn
  obtain ⟨qq, hqq⟩ : ∃ q, n / d = q := ⟨_, rfl⟩
  obtain ⟨rr, hrr⟩ : ∃ q, n % d = q := ⟨_, rfl⟩
  rw [hqq] at HU
  have HQ := Lib.hid hqq; have HR := Lib.hid hrr
  clear hqq hrr
  go_enter Try.func20, Try.ntmps20
  go_wp2_with fail
  refine (ref_Of a _ ha).mono ?_
  rintro e w1 ⟨v1, rfl, hN1, hg1⟩
  go_wp2_with fail
  refine (ref_Of b _ hb).mono ?_
  rintro e w2 ⟨v2, rfl, hN2, hg2⟩
  go_wp2_with fail
  refine (ref_Mul _ _ a b 2 2 _ (hN1.grew hg2).num hN2.num (by omega) (by omega)).mono ?_
  rw [HN.out]
  rintro e w3 ⟨v3, rfl, hN3, hg3⟩
  obtain ⟨A3, n3, c3, rfl⟩ := hN3.form
  generalize decide (n < 0) = pb at hN3 ⊢
  go_wp2_with fail
  obtain ⟨W, hW, g0, x0, x1, e1⟩ := one_new w3 (.bool pb) (.slice A3 n3 c3) 24
  rw [hW]
  clear hW
  replace hN3 := hN3.grew g0
  replace g0 := ((hg1.trans hg2).trans hg3).trans g0
  have G : Grew W W.drew := (Grew.refl W).drew
  clear hN1 hN2 hg1 hg2 hg3
  go_cut [10] (fun s wx => ∃ b, s = .pointer (some ⟨b, 0, none⟩) ∧ Boxed wx b qq (32 * (2 + 64 * 2) + 3) ∧ Grew W wx)
  case first =>
    go_region_held3 (fun w' => w'.cell? ⟨w3.heap.size, 0, none⟩ = some (.bool pb) ∧ w'.cell? ⟨w3.heap.size, 1, none⟩ = some (.slice A3 n3 c3))
      (exact two_keep (by repeat (first | (with_reducible exact G) | (with_reducible exact Grew.refl _) | (with_reducible refine Grew.alloc ?_ _) | (with_reducible refine Grew.setAt ?_ (by omega) _) | (with_reducible refine Grew.drew ?_))) e1 x0 x1)
      (first
        | (go_at_call 7; refine (ref_Of d _ hd).mono ?_; rintro e w1 ⟨v1, rfl, hN1, hg1⟩; replace G := (Grew.trans (a := W) (by repeat (first | (with_reducible exact G) | (with_reducible exact Grew.refl _) | (with_reducible refine Grew.alloc ?_ _) | (with_reducible refine Grew.setAt ?_ (by omega) _) | (with_reducible refine Grew.drew ?_))) hg1); have hs1 := G.size; (first | (refine with_fact (p := Blank w1 W.heap.size ∧ Blank w1 (W.heap.size + 1)) ?_ ?_; exact ⟨((Blank.new W 24).grew ((Grew.refl _).alloc (.cells #[.bool false, .slice none 0 0] 24))).drew.grew hg1, (Blank.new2 W (.cells #[.bool false, .slice none 0 0] 24) 24).drew.grew hg1⟩; rintro ⟨B1, B2⟩; have n1 := B1.lt; have n2 := B2.lt) | (refine with_fact (p := Blank w1 W.heap.size) ?_ ?_; exact (Blank.new W 24).drew.grew hg1; intro B1; have n1 := B1.lt) | skip))
        | (go_at_call 23; refine (ref_Down _ _ n d (2 + 64 * 2) 2 _ (hN3.grew (by repeat (first | (with_reducible exact G) | (with_reducible exact Grew.refl _) | (with_reducible refine Grew.alloc ?_ _) | (with_reducible refine Grew.setAt ?_ (by omega) _) | (with_reducible refine Grew.drew ?_)))).num (hN1.num.grew (by repeat (first | (with_reducible exact Grew.refl _) | (with_reducible refine Grew.alloc ?_ _)))) (by omega) (by omega) hpos).mono ?_; rw [HQ.out, HR.out]; rintro e w2 ⟨v2, u2, rfl, hN2, hU2, hg2⟩; have g12 : Grew w1 w2 := Grew.trans (a := w1) (by repeat (first | (with_reducible exact Grew.refl _) | (with_reducible refine Grew.alloc ?_ _))) hg2; (first | (refine with_fact (p := Blank w2 W.heap.size ∧ Blank w2 (W.heap.size + 1)) ?_ ?_; exact ⟨B1.grew g12, B2.grew g12⟩; rintro ⟨C1, C2⟩; obtain ⟨i10, i11, i12, i13, i14⟩ := id C1; obtain ⟨i20, i21, i22, i23, i24⟩ := id C2) | (refine with_fact (p := Blank w2 W.heap.size) ?_ ?_; exact B1.grew g12; intro C1; obtain ⟨i10, i11, i12, i13, i14⟩ := id C1) | skip); (first | (refine with_fact (p := Blank w2 w1.heap.size ∧ Blank w2 (w1.heap.size + 1)) ?_ ?_; exact ⟨(Blank.new w1 24).grew (((Grew.refl _).alloc (.cells #[.bool false, .slice none 0 0] 24)).trans hg2), (Blank.new2 w1 (.cells #[.bool false, .slice none 0 0] 24) 24).grew hg2⟩; rintro ⟨D1, D2⟩; obtain ⟨j10, j11, j12, j13, j14⟩ := id D1; obtain ⟨j20, j21, j22, j23, j24⟩ := id D2) | (refine with_fact (p := Blank w2 w1.heap.size) ?_ ?_; exact (Blank.new w1 24).grew hg2; intro D1; obtain ⟨j10, j11, j12, j13, j14⟩ := id D1) | skip); replace G := (G.trans g12); obtain ⟨A2, n2, c2, rfl⟩ := hN2.form; obtain ⟨A4, n4, c4, rfl⟩ := hU2.form; generalize decide (qq < 0) = qb at hN2 ⊢; generalize decide (rr < 0) = rb at hU2 ⊢))
    all_goals go_wp2_with fail
    all_goals go_meet
    all_goals refine ⟨_, rfl, ?_, (by repeat (first | (with_reducible exact G) | (with_reducible exact Grew.refl _) | (with_reducible refine Grew.alloc ?_ _) | (with_reducible refine Grew.setAt ?_ (by omega) _) | (with_reducible refine Grew.drew ?_)))⟩
    all_goals first | (with_reducible exact boxed1 hN2 _ _) | (with_reducible exact boxed2 hN2 _ _) | (with_reducible exact boxed3 hN2 (by assumption) _) | (with_reducible exact boxed4 hN2 (by assumption) _) | (with_reducible exact boxed5 hN2 (by assumption) (by assumption) (by omega))
  case rest =>
    obtain ⟨b, rfl, ⟨bo, A2, n2, c2, b0, b1, hN2⟩, gc⟩ := hcut
    go_wp2_with (go_at_call 9; refine (ref_Held _ _ _ _ hN2 (by omega)).mono ?_; rw [HU.out]; rintro e w4 ⟨rfl, hg4⟩)
    go_ret
    exact ⟨rfl, g0.trans (gc.trans hg4)⟩

theorem ref_Quotient (a b d : Int) (up : Bool) (w : World) (ha : -9223372036854775808 ≤ a ∧ a ≤ 9223372036854775807) (hb : -9223372036854775808 ≤ b ∧ b ≤ 9223372036854775807) (hd : -9223372036854775808 ≤ d ∧ d ≤ 9223372036854775807) :
    Calls Try.prog 20 #[.int .i64 a, .int .i64 b, .int .i64 d, .bool up] w fun e w' => e = .returned (.int .i64 (if up then upOf a b d else downOf a b d)) ∧ Grew w w' := by
  by_cases hpos : 0 < d
  · cases up
    · exact quot_down a b d w ha hb hd hpos
    · exact quot_up a b d w ha hb hd hpos
  · have h1 : upOf a b d = 0 := by rw [upOf, if_pos (by omega)]
    have h2 : downOf a b d = 0 := by rw [downOf, if_pos (by omega)]
    rw [h1, h2]
    clear h1 h2
    have hle : d ≤ 0 := by omega
    go_enter Try.func20, Try.ntmps20
    go_wp2
    go_ret
    exact ⟨ret_int (by cases up <;> rfl), Grew.refl _⟩
end Go.Proofs.Ytngkbheahepkpaa

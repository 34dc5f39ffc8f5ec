/-
  Shifts by any number of places, and bounds, are the document's. For every input.
-/
import Derived.Test.YtngkbheahepkpaaRows
import Derived.Test.YtngkbheahepkpaaSatB
import Derived.Test.YtngkbheahepkpaaRefJ
import Derived.ProofKit
import Derived.OpenShut
namespace Go.Proofs.Ytngkbheahepkpaa.satShifts
open Go.ChangeShapes Go.WideShapes Go.ChangeAt Go.RowKit
set_option linter.unusedVariables false

theorem own : ownKnob Try.prog.godebug = none := by kernel_rfl

theorem held_pow (a : Int) (n : Nat) (ha : -9223372036854775808 ≤ a ∧ a ≤ 9223372036854775807) : held (a * 2 ^ n) = held (a * 2 ^ min n 200) := by
  by_cases h : n ≤ 200
  · rw [Nat.min_eq_left h]
  · have h1 := pow_ge_of n (by omega)
    have h2 := pow_ge_of 200 (by omega)
    rw [Nat.min_eq_right (by omega)]
    have big : ∀ p : Int, 9223372036854775808 ≤ p → held (a * p) = if 0 < a then 9223372036854775807 else if a < 0 then -9223372036854775808 else 0 := fun p hp => by
      split
      · have := Int.mul_le_mul (show 1 ≤ a by omega) hp (by omega) (by omega)
        exact held_hi _ (by omega)
      · split
        · have := Int.mul_le_mul (show 1 ≤ -a by omega) hp (by omega) (by omega)
          rw [Int.neg_mul] at this
          exact held_lo _ (by omega)
        · obtain rfl : a = 0 := by omega
          rw [Int.zero_mul]; exact held_in _ (by omega) (by omega)
    rw [big _ h1, big _ h2]
theorem div_pow (a : Int) (n : Nat) (ha : -9223372036854775808 ≤ a ∧ a ≤ 9223372036854775807) : a / 2 ^ n = a / 2 ^ min n 200 := by
  by_cases h : n ≤ 200
  · rw [Nat.min_eq_left h]
  · rw [Nat.min_eq_right (by omega), div_big a _ ha (pow_ge_of n (by omega)), div_big a _ ha (pow_ge_of 200 (by omega))]
theorem div_in (a p : Int) (ha : -9223372036854775808 ≤ a ∧ a ≤ 9223372036854775807) (hp : 0 < p) : held (a / p) = a / p := by
  have h1 : a / p ≤ 9223372036854775807 := by
    rcases Int.lt_or_le a 0 with h | h
    · have := Int.ediv_neg_of_neg_of_pos h hp; omega
    · have := Int.ediv_le_self p h; omega
  have h2 : -9223372036854775808 ≤ a / p := (Int.le_ediv_iff_mul_le hp).2 (by
    have := Int.mul_le_mul_of_nonneg_left (show 1 ≤ p by omega) (show (0 : Int) ≤ 9223372036854775808 by omega)
    rw [Int.neg_mul]; omega)
  exact held_in _ h2 h1
theorem four_keep2 {W w' : World} {p q : Nat} {a b c d : Value} (g : Grew W w') (hp : p < W.heap.size) (hq : q < W.heap.size)
    (h1 : W.cell? ⟨p, 0, none⟩ = some a) (h2 : W.cell? ⟨p, 1, none⟩ = some b) (h3 : W.cell? ⟨q, 0, none⟩ = some c) (h4 : W.cell? ⟨q, 1, none⟩ = some d) :
    w'.cell? ⟨p, 0, none⟩ = some a ∧ w'.cell? ⟨p, 1, none⟩ = some b ∧ w'.cell? ⟨q, 0, none⟩ = some c ∧ w'.cell? ⟨q, 1, none⟩ = some d :=
  ⟨(g.cell hp).trans h1, (g.cell hp).trans h2, (g.cell hq).trans h3, (g.cell hq).trans h4⟩

set_option maxHeartbeats 4000000 in
set_option maxRecDepth 100000 in
theorem walk (a n l m : Int) (w0 : (Lit.int .i64 a).wf = true) (w1 : (Lit.int .u64 n).wf = true) (w2 : (Lit.int .i64 l).wf = true) (w3 : (Lit.int .i64 m).wf = true) (w : World) :
    Calls Try.prog 5 #[.int .i64 a, .int .u64 n, .int .i64 l, .int .i64 m] w fun e w' => e = .returned (.bool true) ∧ Grew w w' := by
  have ha := bounds_i64 w0; have hn := bounds_u64 w1; have hl := bounds_i64 w2; have hm := bounds_i64 w3
  clear w0 w1 w2 w3
  have hpow : 0 < (2 : Int) ^ (min n 200).toNat := by
    have := Nat.two_pow_pos (min n 200).toNat
    have e : ((2 ^ (min n 200).toNat : Nat) : Int) = (2 : Int) ^ (min n 200).toNat := by simp
    omega
  have hmin : (min n 200).toNat = min n.toNat 200 := by omega
  have hminb : 0 ≤ min n 200 ∧ min n 200 ≤ 200 := by omega
  have hLeft : held (a * 2 ^ n.toNat) = held (a * 2 ^ (min n 200).toNat) := by rw [hmin]; exact held_pow a _ ha
  have hRight : a / 2 ^ n.toNat = held (a / 2 ^ (min n 200).toNat) := by rw [div_in _ _ ha hpow, hmin]; exact div_pow a _ ha
  obtain ⟨P, hP⟩ : ∃ P : Int, 2 ^ (min n 200).toNat = P := ⟨_, rfl⟩
  rw [hP] at hpow hLeft hRight
  have HP := Lib.hid hP; have HL := Lib.hid hLeft; have HR := Lib.hid hRight
  clear hP hLeft hRight hmin
  obtain ⟨K, hK⟩ : ∃ K : Nat, (min n 200).toNat + 1 = K ∧ K ≤ 201 := ⟨_, rfl, by omega⟩
  obtain ⟨hK, hK'⟩ := hK
  have HKK := Lib.hid hK
  clear hK
  obtain ⟨qq, hqq⟩ : ∃ q, a / P = q := ⟨_, rfl⟩
  obtain ⟨rr, hrr⟩ : ∃ q, a % P = q := ⟨_, rfl⟩
  have HQ := Lib.hid hqq; have HQR := Lib.hid hrr
  clear hqq hrr
  go_enter Try.func5, Try.ntmps5
  go_wp2_with fail
  refine (ref_Two (min n 200) _ (by omega) (by omega)).mono ?_
  rw [HP.out, HKK.out]
  rintro e w3 ⟨v3, rfl, hN3, hg3⟩
  obtain ⟨A3, n3, c3, rfl⟩ := hN3.form
  generalize decide (P < 0) = pb at hN3 ⊢
  go_wp2_with fail
  obtain ⟨W, hW, g0, x0, x1, e1⟩ := one_new w3 (.bool pb) (.slice A3 n3 c3) 24
  rw [hW]
  clear hW
  replace hN3 := hN3.grew g0
  replace g0 := hg3.trans g0
  have G : Grew W W.drew := (Grew.refl W).drew
  clear hg3
  go_cut [10] (fun s wx => ∃ b, s = .pointer (some ⟨b, 0, none⟩) ∧ Boxed wx b qq (32 * 2 + 3) ∧ Grew W wx)
  case first =>
    go_region_held3 (fun w' => w'.cell? ⟨w3.heap.size, 0, none⟩ = some (.bool pb) ∧ w'.cell? ⟨w3.heap.size, 1, none⟩ = some (.slice A3 n3 c3))
      (exact two_keep (by repeat (first | (with_reducible exact G) | (with_reducible exact Grew.refl _) | (with_reducible refine Grew.alloc ?_ _) | (with_reducible refine Grew.setAt ?_ (by omega) _) | (with_reducible refine Grew.drew ?_))) e1 x0 x1)
      (first
        | (go_at_call 7; refine (ref_Of a _ ha).mono ?_; rintro e w1 ⟨v1, rfl, hN1, hg1⟩; replace G := (Grew.trans (a := W) (by repeat (first | (with_reducible exact G) | (with_reducible exact Grew.refl _) | (with_reducible refine Grew.alloc ?_ _) | (with_reducible refine Grew.setAt ?_ (by omega) _) | (with_reducible refine Grew.drew ?_))) hg1); have hs1 := G.size; (first | (refine with_fact (p := Blank w1 W.heap.size ∧ Blank w1 (W.heap.size + 1)) ?_ ?_; exact ⟨((Blank.new W 24).grew ((Grew.refl _).alloc (.cells #[.bool false, .slice none 0 0] 24))).drew.grew hg1, (Blank.new2 W (.cells #[.bool false, .slice none 0 0] 24) 24).drew.grew hg1⟩; rintro ⟨B1, B2⟩; have n1 := B1.lt; have n2 := B2.lt) | (refine with_fact (p := Blank w1 W.heap.size) ?_ ?_; exact (Blank.new W 24).drew.grew hg1; intro B1; have n1 := B1.lt) | skip))
        | (go_at_call 23; refine (ref_Down _ _ a P 2 K _ (hN1.num.grew (by repeat (first | (with_reducible exact Grew.refl _) | (with_reducible refine Grew.alloc ?_ _)))) (hN3.grew (by repeat (first | (with_reducible exact G) | (with_reducible exact Grew.refl _) | (with_reducible refine Grew.alloc ?_ _) | (with_reducible refine Grew.setAt ?_ (by omega) _) | (with_reducible refine Grew.drew ?_)))) (by omega) (by omega) hpow).mono ?_; rw [HQ.out, HQR.out]; rintro e w2 ⟨v2, u2, rfl, hN2, hU2, hg2⟩; have g12 : Grew w1 w2 := Grew.trans (a := w1) (by repeat (first | (with_reducible exact Grew.refl _) | (with_reducible refine Grew.alloc ?_ _))) hg2; (first | (refine with_fact (p := Blank w2 W.heap.size ∧ Blank w2 (W.heap.size + 1)) ?_ ?_; exact ⟨B1.grew g12, B2.grew g12⟩; rintro ⟨C1, C2⟩; obtain ⟨i10, i11, i12, i13, i14⟩ := id C1; obtain ⟨i20, i21, i22, i23, i24⟩ := id C2) | (refine with_fact (p := Blank w2 W.heap.size) ?_ ?_; exact B1.grew g12; intro C1; obtain ⟨i10, i11, i12, i13, i14⟩ := id C1) | skip); (first | (refine with_fact (p := Blank w2 w1.heap.size ∧ Blank w2 (w1.heap.size + 1)) ?_ ?_; exact ⟨(Blank.new w1 24).grew (((Grew.refl _).alloc (.cells #[.bool false, .slice none 0 0] 24)).trans hg2), (Blank.new2 w1 (.cells #[.bool false, .slice none 0 0] 24) 24).grew hg2⟩; rintro ⟨D1, D2⟩; obtain ⟨j10, j11, j12, j13, j14⟩ := id D1; obtain ⟨j20, j21, j22, j23, j24⟩ := id D2) | (refine with_fact (p := Blank w2 w1.heap.size) ?_ ?_; exact (Blank.new w1 24).grew hg2; intro D1; obtain ⟨j10, j11, j12, j13, j14⟩ := id D1) | skip); replace G := (G.trans g12); obtain ⟨A2, n2, c2, rfl⟩ := hN2.form; obtain ⟨A4, n4, c4, rfl⟩ := hU2.form; generalize decide (qq < 0) = qb at hN2 ⊢; generalize decide (rr < 0) = rb at hU2 ⊢))
    all_goals go_wp2_with fail
    all_goals go_meet
    all_goals refine ⟨_, rfl, ?_, (by repeat (first | (with_reducible exact G) | (with_reducible exact Grew.refl _) | (with_reducible refine Grew.alloc ?_ _) | (with_reducible refine Grew.setAt ?_ (by omega) _) | (with_reducible refine Grew.drew ?_)))⟩
    all_goals first | (with_reducible exact boxed1 hN2 _ _) | (with_reducible exact boxed2 hN2 _ _) | (with_reducible exact boxed3 hN2 (by assumption) _) | (with_reducible exact boxed4 hN2 (by assumption) _) | (with_reducible exact boxed5 hN2 (by assumption) (by assumption) (by omega))
  case rest =>
    obtain ⟨b, rfl, ⟨bo, A2, n2, c2, b0, b1, hN2⟩, gc⟩ := hcut
    obtain ⟨y0, y1⟩ := two_keep gc e1 x0 x1
    have e1' : w3.heap.size < wc.heap.size := Nat.lt_of_lt_of_le e1 gc.size
    have hbl : b < wc.heap.size := World.block_lt_of_cell? wc _ b0
    replace hN3 := hN3.grew gc
    replace g0 := g0.trans gc
    have G : Grew wc wc.drew := (Grew.refl wc).drew
    clear gc x0 x1 e1
    go_wp2_with fail
    go_region_held3 (fun w' => w'.cell? ⟨w3.heap.size, 0, none⟩ = some (.bool pb) ∧ w'.cell? ⟨w3.heap.size, 1, none⟩ = some (.slice A3 n3 c3) ∧ w'.cell? ⟨b, 0, none⟩ = some (.bool bo) ∧ w'.cell? ⟨b, 1, none⟩ = some (.slice A2 n2 c2))
      (exact four_keep2 G e1' hbl y0 y1 b0 b1)
      (first
        | (go_at_call 24; refine (sat_Left _ _ _ ha hn).mono ?_; rw [HL.out]; rintro e w' ⟨rfl, hg⟩; replace G := G.trans hg; clear hg)
        | (go_at_call 25; refine (sat_Right _ _ _ ha hn).mono ?_; rw [HR.out, HQ.out]; rintro e w' ⟨rfl, rfl⟩)
        | (go_at_call 7; refine (ref_Of a _ ha).mono ?_; rintro e w' ⟨v1, rfl, hN1, hg⟩; replace G := G.trans hg; clear hg)
        | (go_at_call 14; refine (ref_Mul _ _ a P 2 K _ hN1.num (hN3.grew G) (by omega) (by omega)).mono ?_; rintro e w' ⟨v5, rfl, hN5, hg⟩; replace G := G.trans hg; clear hg)
        | (go_at_call 9; ((with_reducible refine (ref_Held v5 _ _ _ hN5 (by omega)).mono ?_); rintro e w' ⟨rfl, hg⟩; replace G := G.trans hg; clear hg))
        | (go_at_call 9; ((with_reducible refine (ref_Held _ _ _ _ (hN2.grew G) (by omega)).mono ?_); rintro e w' ⟨rfl, hg⟩; replace G := G.trans hg; clear hg)))
    replace g0 := g0.trans G
    clear G
    rcases (show a < l ∨ (l ≤ a ∧ m < a) ∨ (l ≤ a ∧ a ≤ m) by omega) with h | ⟨h, h'⟩ | ⟨h, h'⟩
    · have hc : clampOf a l m = l := by unfold clampOf; rw [if_pos h]
      go_wp2_with (first
        | (go_at_call 26; refine (sat_Clamp _ _ _ _ ha hl hm).mono ?_; rw [hc]; rintro e w' ⟨rfl, rfl⟩)
        | (go_at_call 18; refine (known_true _).mono ?_; rintro e w' ⟨rfl, hg⟩; replace g0 := g0.trans hg; clear hg))
      go_ret
      exact ⟨rfl, g0⟩
    · have hc : clampOf a l m = m := by unfold clampOf; rw [if_neg (by omega), if_pos h']
      go_wp2_with (first
        | (go_at_call 26; refine (sat_Clamp _ _ _ _ ha hl hm).mono ?_; rw [hc]; rintro e w' ⟨rfl, rfl⟩)
        | (go_at_call 18; refine (known_true _).mono ?_; rintro e w' ⟨rfl, hg⟩; replace g0 := g0.trans hg; clear hg))
      go_ret
      exact ⟨rfl, g0⟩
    · have hc : clampOf a l m = a := by unfold clampOf; rw [if_neg (by omega), if_neg (by omega)]
      go_wp2_with (first
        | (go_at_call 26; refine (sat_Clamp _ _ _ _ ha hl hm).mono ?_; rw [hc]; rintro e w' ⟨rfl, rfl⟩)
        | (go_at_call 18; refine (known_true _).mono ?_; rintro e w' ⟨rfl, hg⟩; replace g0 := g0.trans hg; clear hg))
      go_ret
      exact ⟨rfl, g0⟩

set_option maxRecDepth 100000 in
theorem lifted (os : Os) (started : os.Started) (H : Type) (enc : TypeId × Value → H) :
    ReturnsInHanded {} Try.checked os 5 .any (Rows.satShiftsSpec.pre6 enc Try.prog Try.f5 Rows.satShiftsRow.domain false) (Rows.satShiftsSpec.post enc Try.prog Try.f5 false true false false) := by
  refine returnsInHanded_of_change (C := Try.checked) own started (by kernel_rfl) Try.func5
    (ChangeSpec.witness6 (enc := enc) (C := Try.checked) false ⟨#[], #[.int .i64 0, .int .u64 0, .int .i64 0, .int .i64 0], []⟩ 8 (by kernel_rfl) (by kernel_rfl) (by kernel_rfl) (by kernel_rfl)) ?_
  intro W base args ds gs before hval0 hW hcnd _
  have hval : ∀ (j : Nat) t v, Try.f5.params[j]? = some t → args[j]? = some v → Value.okWide Try.prog W .any base t v := hval0
  have hW' := hW
  obtain ⟨p, q, hA0, hV, rfl, hfz, hnd⟩ := hW
  have hA : DataW.TrodAll enc Try.prog W 0 (fun _ => true) true Try.f5.params.toList args.toList ds p := hA0
  rw [Try.params5] at hA hval
  obtain ⟨v0, vs0, d0, ds0, p0, q0, hargs, rfl, rfl, h0, r0⟩ := trodAll_cons hA
  obtain ⟨v1, vs1, d1, ds1, p1, q1, rfl, rfl, rfl, h1, r1⟩ := trodAll_cons r0
  obtain ⟨v2, vs2, d2, ds2, p2, q2, rfl, rfl, rfl, h2, r2⟩ := trodAll_cons r1
  obtain ⟨v3, vs3, d3, ds3, p3, q3, rfl, rfl, rfl, h3, r3⟩ := trodAll_cons r2
  obtain ⟨rfl, rfl, rfl⟩ := trodAll_nil r3
  obtain rfl : args = #[v0, v1, v2, v3] := by cases args; simp_all
  obtain ⟨rfl, rfl⟩ := trodVars_none hV
  obtain ⟨a0, rfl, rfl, rfl, w0⟩ := open_int Try.underlying2 (hval 0 2 v0 rfl rfl) h0
  obtain ⟨a1, rfl, rfl, rfl, w1⟩ := open_int Try.underlying36 (hval 1 36 v1 rfl rfl) h1
  obtain ⟨a2, rfl, rfl, rfl, w2⟩ := open_int Try.underlying2 (hval 2 2 v2 rfl rfl) h2
  obtain ⟨a3, rfl, rfl, rfl, w3⟩ := open_int Try.underlying2 (hval 3 2 v3 rfl rfl) h3
  clear hA0 hval0
  simp only [List.append_nil] at hW'
  refine (walk a0 a1 a2 a3 w0 w1 w2 w3 W).mono fun e W' ⟨he, bel⟩ => ?_
  subst he
  exact ⟨_, rfl, _, _, _, [], [], [], hW', trodAll_mk1 (shut_bool Try.underlying4 _), (trodAll_cons_mk (shut_int Try.underlying2 w0) (trodAll_cons_mk (shut_int Try.underlying36 w1) (trodAll_cons_mk (shut_int Try.underlying2 w2) (trodAll_cons_mk (shut_int Try.underlying2 w3) trodAll_mk0)))), rfl, bel.below.frame _, fun h => by cases h⟩

theorem over : Rows.satShiftsRow.holds Try.pinned (OpenSpec.ofChange Rows.satShiftsSpec) :=
  OpenClaim.holds_of_wide 5 Try.f5 rfl rfl rfl rfl rfl rfl rfl ⟨rfl, rfl, rfl, rfl, rfl⟩ rfl rfl rfl rfl rfl (by kernel_rfl) Try.func5 (by kernel_rfl)
    (of_decide_eq_true (by kernel_rfl)) (by unfold Func.isWrapper; first | (rw [if_pos (by decide +kernel)]; kernel_rfl) | (rw [if_neg (by decide +kernel)]; exact ⟨rfl, rfl⟩))
    (fun os started H enc _ => lifted os started H enc)

/-- The given statement. -/
theorem proved : Rows.SatShiftsSaid := over
#print axioms proved
end Go.Proofs.Ytngkbheahepkpaa.satShifts

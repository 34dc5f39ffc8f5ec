/-
  sat's calls hang on no order of sums and products; a number less itself is 0; Up is Down, or one more; a product over one of its factors is the other one. For every input.
-/
import Derived.Test.YtngkbheahepkpaaRows
import Derived.Test.YtngkbheahepkpaaSatA
import Derived.ProofKit
import Derived.OpenShut
namespace Go.Proofs.Ytngkbheahepkpaa.satLaws
open Go.ChangeShapes Go.WideShapes Go.ChangeAt Go.RowKit
set_option linter.unusedVariables false

theorem own : ownKnob Try.prog.godebug = none := by kernel_rfl

theorem i64_of {a : Int} (h : (Lit.int .i64 a).wf = true) : -9223372036854775808 ≤ a ∧ a ≤ 9223372036854775807 := by
  have := bounds_i64 h
  omega

theorem up_down (a b d : Int) (hd : 0 < d) : (a * b + (d - 1)) / d = -((-(a * b)) / d) := by
  generalize a * b = n
  have h1 := Int.mul_ediv_add_emod (-n) d
  have h2 := Int.emod_nonneg (-n) (show d ≠ 0 by omega)
  have h3 := Int.emod_lt_of_pos (-n) hd
  generalize (-n) / d = q at *
  have e : n + (d - 1) = (d - 1 - (-n) % d) + d * (-q) := by rw [Int.mul_neg]; omega
  rw [e, Int.add_mul_ediv_left _ _ (by omega), Int.ediv_eq_zero_of_lt (by omega) (by omega)]
  omega

theorem up_or (a b d : Int) : upOf a b d = downOf a b d ∨ (upOf a b d = downOf a b d + 1 ∧ downOf a b d < 9223372036854775807) := by
  unfold upOf downOf
  split
  · exact Or.inl rfl
  · rename_i h
    have h1 := Int.mul_ediv_add_emod (a * b) d
    have h2 := Int.emod_nonneg (a * b) (show d ≠ 0 by omega)
    have h3 := Int.emod_lt_of_pos (a * b) (show 0 < d by omega)
    have e : a * b + (d - 1) = (a * b % d + (d - 1)) + d * (a * b / d) := by omega
    rw [e, Int.add_mul_ediv_left _ _ (by omega)]
    have h4 : (a * b % d + (d - 1)) / d = 0 ∨ (a * b % d + (d - 1)) / d = 1 := by
      have g1 : 0 ≤ (a * b % d + (d - 1)) / d := Int.ediv_nonneg (by omega) (by omega)
      have g2 : (a * b % d + (d - 1)) / d < 2 := Int.ediv_lt_of_lt_mul (by omega) (by omega)
      omega
    generalize a * b / d = q at *
    rcases h4 with h4 | h4 <;> rw [h4] <;> unfold held <;> (repeat' split) <;> omega

theorem self (a d : Int) (ha : -9223372036854775808 ≤ a ∧ a ≤ 9223372036854775807) (hd : 0 < d) : downOf a d d = a ∧ upOf a d d = a := by
  unfold downOf upOf
  rw [if_neg (by omega), if_neg (by omega), Int.mul_ediv_cancel _ (by omega)]
  refine ⟨held_in _ ha.1 ha.2, ?_⟩
  have e : a * d + (d - 1) = (d - 1) + d * a := by rw [Int.mul_comm]; omega
  rw [e, Int.add_mul_ediv_left _ _ (by omega), Int.ediv_eq_zero_of_lt (by omega) (by omega), Int.zero_add]
  exact held_in _ ha.1 ha.2

theorem last (a b d : Int) (ha : -9223372036854775808 < a ∧ a ≤ 9223372036854775807) (h1 : upOf a b d ≠ -9223372036854775808) (h2 : upOf a b d ≠ 9223372036854775807) :
    upOf a b d = held (-(downOf (held (-a)) b d)) := by
  rw [held_in (-a) (by omega) (by omega)]
  unfold upOf downOf at *
  by_cases hd : d ≤ 0
  · rw [if_pos hd, if_pos hd]; rfl
  · rw [if_neg hd] at *
    rw [if_neg hd]
    rw [up_down _ _ _ (by omega)] at *
    rw [Int.neg_mul]
    generalize (-(a * b)) / d = q at *
    revert h1 h2
    unfold held
    (repeat' split) <;> omega

set_option maxHeartbeats 1000000 in
set_option maxRecDepth 100000 in
theorem core (a b d s m x y na zn z : Int) (w : World) (ha : -9223372036854775808 ≤ a ∧ a ≤ 9223372036854775807) (hb : -9223372036854775808 ≤ b ∧ b ≤ 9223372036854775807) (hd : -9223372036854775808 ≤ d ∧ d ≤ 9223372036854775807)
    (c0 : held (a + b) = s) (c1 : held (b + a) = s) (c2 : held (a * b) = m) (c2' : held (b * a) = m) (c3 : held 0 = 0) (c4 : downOf a b d = x) (c5 : downOf b a d = x) (c6 : upOf a b d = y) (c7 : held (-a) = na) (c8 : downOf na b d = zn) (c9 : held (-zn) = z)
    (hna : -9223372036854775808 ≤ na ∧ na ≤ 9223372036854775807) (hzn : -9223372036854775808 ≤ zn ∧ zn ≤ 9223372036854775807) (hx : -9223372036854775808 ≤ x ∧ x ≤ 9223372036854775807)
    (hself : 0 < d → downOf a d d = a ∧ upOf a d d = a) (hxy : y = x ∨ y = x + 1 ∧ x < 9223372036854775807) (hl : y = z ∨ a = -9223372036854775808 ∨ y = -9223372036854775808 ∨ y = 9223372036854775807) :
    Calls Try.prog 6 #[.int .i64 a, .int .i64 b, .int .i64 d] w fun e w' => e = .returned (.bool true) ∧ Grew w w' := by
  have G := Grew.refl w
  have hfin : (y == z || a == -9223372036854775808 || y == -9223372036854775808 || y == 9223372036854775807) = true := by simp; omega
  by_cases hd0 : 0 < d
  all_goals
    try (have hdp : 0 < d := by omega
         have s1 := (hself hdp).1
         have s2 := (hself hdp).2
         clear hdp)
    clear hself
    rcases hxy with rfl | ⟨rfl, hx1⟩
    all_goals
      go_enter Try.func6, Try.ntmps6
      go_wp2_with (first | (go_at_call 8; refine (sat_Add _ _ _ (by omega) (by omega)).mono ?_; rintro e w' ⟨rfl, rfl⟩) | (go_at_call 11; refine (sat_Sub _ _ _ (by omega) (by omega)).mono ?_; rintro e w' ⟨rfl, rfl⟩) | (go_at_call 13; refine (sat_Mul _ _ _ (by omega) (by omega)).mono ?_; rintro e w' ⟨rfl, hg⟩; replace G := G.trans hg; clear hg) | (go_at_call 15; refine (sat_Neg _ _ (by omega)).mono ?_; rintro e w' ⟨rfl, rfl⟩) | (go_at_call 19; refine (sat_Down _ _ _ _ (by omega) (by omega) (by omega)).mono ?_; rintro e w' ⟨rfl, hg⟩; replace G := G.trans hg; clear hg) | (go_at_call 21; refine (sat_Up _ _ _ _ (by omega) (by omega) (by omega)).mono ?_; rintro e w' ⟨rfl, hg⟩; replace G := G.trans hg; clear hg))
      all_goals
        go_ret
        refine ⟨?_, G⟩
        first | rfl | (simp; omega)

theorem walk (a b d : Int) (w0 : (Lit.int .i64 a).wf = true) (w1 : (Lit.int .i64 b).wf = true) (w2 : (Lit.int .i64 d).wf = true) (w : World) :
    Calls Try.prog 6 #[.int .i64 a, .int .i64 b, .int .i64 d] w fun e w' => e = .returned (.bool true) ∧ Grew w w' := by
  have ha := i64_of w0; have hb := i64_of w1; have hd := i64_of w2
  refine core a b d _ _ _ _ _ _ _ w ha hb hd rfl (by rw [Int.add_comm]) rfl (by rw [Int.mul_comm]) (held_in _ (by omega) (by omega)) rfl (by unfold downOf; rw [Int.mul_comm]) rfl rfl rfl rfl (held_le _) (downOf_le _ _ _) (downOf_le _ _ _) (self a d ha) (up_or a b d) ?_
  by_cases h0 : a = -9223372036854775808
  · exact Or.inr (Or.inl h0)
  · by_cases h1 : upOf a b d = -9223372036854775808
    · exact Or.inr (Or.inr (Or.inl h1))
    · by_cases h2 : upOf a b d = 9223372036854775807
      · exact Or.inr (Or.inr (Or.inr h2))
      · exact Or.inl (last a b d (by omega) h1 h2)

set_option maxRecDepth 100000 in
theorem lifted (os : Os) (started : os.Started) (H : Type) (enc : TypeId × Value → H) :
    ReturnsInHanded {} Try.checked os 6 .any (Rows.satLawsSpec.pre6 enc Try.prog Try.f6 Rows.satLawsRow.domain false) (Rows.satLawsSpec.post enc Try.prog Try.f6 false true false false) := by
  refine returnsInHanded_of_change (C := Try.checked) own started (by kernel_rfl) Try.func6
    (ChangeSpec.witness6 (enc := enc) (C := Try.checked) false ⟨#[], #[.int .i64 0, .int .i64 0, .int .i64 0], []⟩ 8 (by kernel_rfl) (by kernel_rfl) (by kernel_rfl) (by kernel_rfl)) ?_
  intro W base args ds gs before hval0 hW hcnd _
  have hval : ∀ (j : Nat) t v, Try.f6.params[j]? = some t → args[j]? = some v → Value.okWide Try.prog W .any base t v := hval0
  have hW' := hW
  obtain ⟨p, q, hA0, hV, rfl, hfz, hnd⟩ := hW
  have hA : DataW.TrodAll enc Try.prog W 0 (fun _ => true) true Try.f6.params.toList args.toList ds p := hA0
  rw [Try.params6] at hA hval
  obtain ⟨v0, vs0, d0, ds0, p0, q0, hargs, rfl, rfl, h0, r0⟩ := trodAll_cons hA
  obtain ⟨v1, vs1, d1, ds1, p1, q1, rfl, rfl, rfl, h1, r1⟩ := trodAll_cons r0
  obtain ⟨v2, vs2, d2, ds2, p2, q2, rfl, rfl, rfl, h2, r2⟩ := trodAll_cons r1
  obtain ⟨rfl, rfl, rfl⟩ := trodAll_nil r2
  obtain rfl : args = #[v0, v1, v2] := by cases args; simp_all
  obtain ⟨rfl, rfl⟩ := trodVars_none hV
  obtain ⟨a0, rfl, rfl, rfl, w0⟩ := open_int Try.underlying2 (hval 0 2 v0 rfl rfl) h0
  obtain ⟨a1, rfl, rfl, rfl, w1⟩ := open_int Try.underlying2 (hval 1 2 v1 rfl rfl) h1
  obtain ⟨a2, rfl, rfl, rfl, w2⟩ := open_int Try.underlying2 (hval 2 2 v2 rfl rfl) h2
  clear hA0 hval0
  simp only [List.append_nil] at hW'
  refine (walk a0 a1 a2 w0 w1 w2 W).mono fun e W' ⟨he, bel⟩ => ?_
  subst he
  exact ⟨_, rfl, _, _, _, [], [], [], hW', trodAll_mk1 (shut_bool Try.underlying4 _), (trodAll_cons_mk (shut_int Try.underlying2 w0) (trodAll_cons_mk (shut_int Try.underlying2 w1) (trodAll_cons_mk (shut_int Try.underlying2 w2) trodAll_mk0))), rfl, bel.below.frame _, fun h => by cases h⟩

theorem over : Rows.satLawsRow.holds Try.pinned (OpenSpec.ofChange Rows.satLawsSpec) :=
  OpenClaim.holds_of_wide 6 Try.f6 rfl rfl rfl rfl rfl rfl rfl ⟨rfl, rfl, rfl, rfl, rfl⟩ rfl rfl rfl rfl rfl (by kernel_rfl) Try.func6 (by kernel_rfl)
    (of_decide_eq_true (by kernel_rfl)) (by unfold Func.isWrapper; first | (rw [if_pos (by decide +kernel)]; kernel_rfl) | (rw [if_neg (by decide +kernel)]; exact ⟨rfl, rfl⟩))
    (fun os started H enc _ => lifted os started H enc)

/-- The given statement. -/
theorem proved : Rows.SatLawsSaid := over
#print axioms proved
end Go.Proofs.Ytngkbheahepkpaa.satLaws

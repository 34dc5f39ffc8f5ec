/-
  A second and its nanoseconds come back out of their stamp, by any pivot within 2^31 seconds; stamps of one era rise with time; the short format is not less, and less than a unit more. For every input (seconds beyond 2^60, nanoseconds that are none, pivots farther off: the known answers alone).
-/
import Derived.Test.YtaebamefmhflkaaRows
import Derived.Test.YtaebamefmhflkaaStampB
import Derived.ProofKit
import Derived.OpenShut
namespace Go.Proofs.Ytaebamefmhflkaa.stampBack
open Go.ChangeShapes Go.WideShapes Go.ChangeAt Go.RowKit
set_option linter.unusedVariables false

theorem own : ownKnob Try.prog.godebug = none := by kernel_rfl

set_option maxHeartbeats 1000000 in
set_option maxRecDepth 100000 in
theorem core (sec ns off S T X P A B : Int) (w : World) (hs : -1152921504606846976 ≤ sec ∧ sec ≤ 1152921504606846976) (hn : 0 ≤ ns ∧ ns ≤ 999999999) (ho : -2147483648 < off ∧ off < 2147483648)
    (cS : stampOf sec ns = S) (cP : sec + off = P) (cT : stampOf sec (ns + 1) = T) (hST : S < T) (cX : shortOf ns = X) (hX : 0 ≤ X ∧ X ≤ 65536) (cA : X * 1000000000 / 65536 = A) (hA : ns ≤ A ∧ A ≤ 1000000000) (cB : X ≠ 0 → (X - 1) * 1000000000 / 65536 = B ∧ B < ns)
    (hsp : ∀ w, Hid (Calls Try.prog 15 #[.int .u64 S, .int .i64 P] w fun e w' => e = .returned (.tuple #[.int .i64 sec, .int .i64 ns]) ∧ Grew w w')) :
    Calls Try.prog 5 #[.int .i64 sec, .int .i64 ns, .int .i64 off] w fun e w' => e = .returned (.bool true) ∧ Grew w w' := by
  have G := Grew.refl w
  by_cases hX0 : X = 0
  all_goals
    by_cases h1 : ns + 1 < 1000000000
    all_goals
      try subst hX0
      try (have hX0' : X ≠ 0 := hX0
           have cB1 := (cB hX0').1
           have cB2 := (cB hX0').2
           clear hX0')
      clear cB
      go_enter Try.func5, Try.ntmps5
      go_wp2_with (first
        | (go_at_call 6; (with_reducible refine (stamp_Of sec ns _ (by omega) (by omega)).mono ?_); rw [cS]; rintro e w' ⟨rfl, hg⟩; replace G := G.trans hg; clear hg)
        | (go_at_call 6; (with_reducible refine (stamp_Of sec (ns + 1) _ (by omega) (by omega)).mono ?_); rw [cT]; rintro e w' ⟨rfl, hg⟩; replace G := G.trans hg; clear hg)
        | (go_at_call 15; refine (hsp _).out.mono ?_; rintro e w' ⟨rfl, hg⟩; replace G := G.trans hg; clear hg)
        | (go_at_call 10; refine (stamp_Short ns _ (by omega)).mono ?_; rw [cX]; rintro e w' ⟨rfl, hg⟩; replace G := G.trans hg; clear hg)
        | (go_at_call 12; refine (stamp_ShortNs _ _ (by omega)).mono ?_; (first | rw [cA] | rw [cB1]); rintro e w' ⟨rfl, hg⟩; replace G := G.trans hg; clear hg)
        | (go_at_call 14; refine (stamp_known _).mono ?_; rintro e w' ⟨rfl, hg⟩; replace G := G.trans hg; clear hg))
      all_goals go_ret
      all_goals refine ⟨?_, G⟩
      all_goals first | rfl | (simp; omega)

set_option maxHeartbeats 1000000 in
theorem walk (sec ns off : Int) (w0 : (Lit.int .i64 sec).wf = true) (w1 : (Lit.int .i64 ns).wf = true) (w2 : (Lit.int .i64 off).wf = true) (w : World) :
    Calls Try.prog 5 #[.int .i64 sec, .int .i64 ns, .int .i64 off] w fun e w' => e = .returned (.bool true) ∧ Grew w w' := by
  have hs := bounds_i64 w0; have hn := bounds_i64 w1; have ho := bounds_i64 w2
  clear w0 w1 w2
  by_cases h : (-1152921504606846976 ≤ sec ∧ sec ≤ 1152921504606846976) ∧ (0 ≤ ns ∧ ns ≤ 999999999) ∧ (-2147483648 < off ∧ off < 2147483648)
  · obtain ⟨h1, h2, h3⟩ := h
    obtain ⟨f1, f2, f3, f4, f5⟩ := short_facts ns h2
    exact core sec ns off _ _ _ _ _ _ w h1 h2 h3 rfl rfl rfl (stamp_rises sec ns h2.1) rfl ⟨f1, f2⟩ rfl ⟨f3, f4⟩ (fun h => ⟨rfl, (f5 h).1⟩) (fun w => split_back sec ns off w h1 h2 h3)
  · rcases (show sec < -1152921504606846976 ∨ (-1152921504606846976 ≤ sec ∧ 1152921504606846976 < sec) ∨ ((-1152921504606846976 ≤ sec ∧ sec ≤ 1152921504606846976) ∧ ns < 0) ∨ ((-1152921504606846976 ≤ sec ∧ sec ≤ 1152921504606846976) ∧ 1000000000 ≤ ns) ∨ ((-1152921504606846976 ≤ sec ∧ sec ≤ 1152921504606846976) ∧ (0 ≤ ns ∧ ns < 1000000000) ∧ off ≤ -2147483648) ∨ ((-1152921504606846976 ≤ sec ∧ sec ≤ 1152921504606846976) ∧ (0 ≤ ns ∧ ns < 1000000000) ∧ 2147483648 ≤ off) by omega) with h | h | h | h | h | h
    all_goals
      go_enter Try.func5, Try.ntmps5
      go_wp2_with (go_at_call 14; refine (stamp_known _).mono ?_; rintro e w' ⟨rfl, hg⟩)
      go_ret
      exact ⟨rfl, hg⟩

set_option maxRecDepth 100000 in
theorem lifted (os : Os) (started : os.Started) (H : Type) (enc : TypeId × Value → H) :
    ReturnsInHanded {} Try.checked os 5 .any (Rows.stampBackSpec.pre6 enc Try.prog Try.f5 Rows.stampBackRow.domain false) (Rows.stampBackSpec.post enc Try.prog Try.f5 false true false false) := by
  refine returnsInHanded_of_change (C := Try.checked) own started (by kernel_rfl) Try.func5
    (ChangeSpec.witness6 (enc := enc) (C := Try.checked) false ⟨#[], #[.int .i64 0, .int .i64 0, .int .i64 0], []⟩ 8 (by kernel_rfl) (by kernel_rfl) (by kernel_rfl) (by kernel_rfl)) ?_
  intro W base args ds gs before hval0 hW hcnd _
  have hval : ∀ (j : Nat) t v, Try.f5.params[j]? = some t → args[j]? = some v → Value.okWide Try.prog W .any base t v := hval0
  have hW' := hW
  obtain ⟨p, q, hA0, hV, rfl, hfz, hnd⟩ := hW
  have hA : DataW.TrodAll enc Try.prog W 0 (fun _ => true) true Try.f5.params.toList args.toList ds p := hA0
  rw [Try.params5] at hA hval
  obtain ⟨v0, vs0, d0, ds0, p0, q0, hargs, rfl, rfl, h0, r0⟩ := trodAll_cons hA
  obtain ⟨v1, vs1, d1, ds1, p1, q1, rfl, rfl, rfl, h1, r1⟩ := trodAll_cons r0
  obtain ⟨v2, vs2, d2, ds2, p2, q2, rfl, rfl, rfl, h2, r2⟩ := trodAll_cons r1
  obtain ⟨rfl, rfl, rfl⟩ := trodAll_nil r2
  obtain rfl : args = #[v0, v1, v2] := by cases args; simp_all
  obtain ⟨rfl, rfl⟩ := trodVars_none hV
  obtain ⟨a0, rfl, rfl, rfl, w0⟩ := open_int Try.underlying2 (hval 0 2 v0 rfl rfl) h0
  obtain ⟨a1, rfl, rfl, rfl, w1⟩ := open_int Try.underlying2 (hval 1 2 v1 rfl rfl) h1
  obtain ⟨a2, rfl, rfl, rfl, w2⟩ := open_int Try.underlying2 (hval 2 2 v2 rfl rfl) h2
  clear hA0 hval0
  simp only [List.append_nil] at hW'
  refine (walk a0 a1 a2 w0 w1 w2 W).mono fun e W' ⟨he, bel⟩ => ?_
  subst he
  exact ⟨_, rfl, _, _, _, [], [], [], hW', trodAll_mk1 (shut_bool Try.underlying4 _), (trodAll_cons_mk (shut_int Try.underlying2 w0) (trodAll_cons_mk (shut_int Try.underlying2 w1) (trodAll_cons_mk (shut_int Try.underlying2 w2) trodAll_mk0))), rfl, bel.below.frame _, fun h => by cases h⟩

theorem over : Rows.stampBackRow.holds Try.pinned (OpenSpec.ofChange Rows.stampBackSpec) :=
  OpenClaim.holds_of_wide 5 Try.f5 rfl rfl rfl rfl rfl rfl rfl ⟨rfl, rfl, rfl, rfl, rfl⟩ rfl rfl rfl rfl rfl (by kernel_rfl) Try.func5 (by kernel_rfl)
    (of_decide_eq_true (by kernel_rfl)) (by unfold Func.isWrapper; first | (rw [if_pos (by decide +kernel)]; kernel_rfl) | (rw [if_neg (by decide +kernel)]; exact ⟨rfl, rfl⟩))
    (fun os started H enc _ => lifted os started H enc)

/-- The given statement. -/
theorem proved : Rows.StampBackSaid := over
#print axioms proved
end Go.Proofs.Ytaebamefmhflkaa.stampBack

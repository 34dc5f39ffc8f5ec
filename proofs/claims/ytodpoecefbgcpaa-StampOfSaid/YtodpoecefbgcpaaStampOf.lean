/-
  The stamp and the era of any second, the short format of any nanoseconds, and what a short one is, are the document's, or refused: for every input.
-/
import Derived.Test.YtodpoecefbgcpaaRows
import Derived.Test.YtodpoecefbgcpaaRefL
import Derived.ProofKit
import Derived.OpenShut
namespace Go.Proofs.Ytodpoecefbgcpaa.stampOf
open Go.ChangeShapes Go.WideShapes Go.ChangeAt Go.RowKit
set_option linter.unusedVariables false

theorem own : ownKnob Try.prog.godebug = none := by kernel_rfl

set_option maxHeartbeats 1000000 in
set_option maxRecDepth 100000 in
theorem core (sec ns short S E X P R : Int) (w : World) (hX : 0 ≤ X ∧ X ≤ 4294967295)
    (h1 : ∀ w, Hid (Calls Try.prog 5 #[.int .i64 sec, .int .i64 ns] w fun e w' => e = .returned (.tuple #[.int .u64 S, .int .i64 R]) ∧ Grew w w'))
    (h2 : ∀ w, Hid (Calls Try.prog 6 #[.int .i64 sec, .int .i64 ns] w fun e w' => e = .returned (.tuple #[.int .u64 S, .int .i64 R]) ∧ Grew w w'))
    (h3 : ∀ w, Hid (Calls Try.prog 7 #[.int .i64 sec] w fun e w' => e = .returned (.int .i64 E) ∧ Grew w w'))
    (h4 : ∀ w, Hid (Calls Try.prog 8 #[.int .i64 sec] w fun e w' => e = .returned (.int .i64 E) ∧ Grew w w'))
    (h5 : ∀ w, Hid (Calls Try.prog 9 #[.int .i64 ns] w fun e w' => e = .returned (.int .u32 X) ∧ Grew w w'))
    (h6 : ∀ w, Hid (Calls Try.prog 10 #[.int .i64 ns] w fun e w' => e = .returned (.int .u32 X) ∧ Grew w w'))
    (h7 : ∀ w, Hid (Calls Try.prog 11 #[.int .u32 short] w fun e w' => e = .returned (.int .i64 P) ∧ Grew w w'))
    (h8 : ∀ w, Hid (Calls Try.prog 12 #[.int .u32 short] w fun e w' => e = .returned (.int .i64 P) ∧ Grew w w')) :
    Calls Try.prog 3 #[.int .i64 sec, .int .i64 ns, .int .u32 short] w fun e w' => e = .returned (.bool true) ∧ Grew w w' := by
  have hK := fun w => Lib.hid (stamp_known w)
  have G := Grew.refl w
  go_enter Try.func3, Try.ntmps3
  go_wp2_with (first
    | (go_at_call 5; refine (h1 _).out.mono ?_; rintro e w' ⟨rfl, hg⟩; replace G := G.trans hg; clear hg)
    | (go_at_call 6; refine (h2 _).out.mono ?_; rintro e w' ⟨rfl, hg⟩; replace G := G.trans hg; clear hg)
    | (go_at_call 7; refine (h3 _).out.mono ?_; rintro e w' ⟨rfl, hg⟩; replace G := G.trans hg; clear hg)
    | (go_at_call 8; refine (h4 _).out.mono ?_; rintro e w' ⟨rfl, hg⟩; replace G := G.trans hg; clear hg)
    | (go_at_call 9; refine (h5 _).out.mono ?_; rintro e w' ⟨rfl, hg⟩; replace G := G.trans hg; clear hg)
    | (go_at_call 10; refine (h6 _).out.mono ?_; rintro e w' ⟨rfl, hg⟩; replace G := G.trans hg; clear hg)
    | (go_at_call 11; refine (h7 _).out.mono ?_; rintro e w' ⟨rfl, hg⟩; replace G := G.trans hg; clear hg)
    | (go_at_call 12; refine (h8 _).out.mono ?_; rintro e w' ⟨rfl, hg⟩; replace G := G.trans hg; clear hg)
    | (go_at_call 13; refine (hK _).out.mono ?_; rintro e w' ⟨rfl, hg⟩; replace G := G.trans hg; clear hg))
  go_ret
  exact ⟨rfl, G⟩

theorem walk (sec ns short : Int) (w0 : (Lit.int .i64 sec).wf = true) (w1 : (Lit.int .i64 ns).wf = true) (w2 : (Lit.int .u32 short).wf = true) (w : World) :
    Calls Try.prog 3 #[.int .i64 sec, .int .i64 ns, .int .u32 short] w fun e w' => e = .returned (.bool true) ∧ Grew w w' := by
  have hs := bounds_i64 w0; have hn := bounds_i64 w1
  have hu := bounds_u32 w2
  have hX : 0 ≤ shortOf ns ∧ shortOf ns ≤ 4294967295 := by unfold shortOf; split <;> omega
  by_cases h : 0 ≤ ns ∧ ns ≤ 999999999
  · exact core sec ns short _ _ _ _ 0 w hX (fun w => stamp_Of sec ns w hs h) (fun w => ref02_Of sec ns w hs h) (fun w => Lib.hid ((stamp_Era sec w hs).mono fun e w' h => ⟨h.1, h.2 ▸ Grew.refl _⟩)) (fun w => ref02_Era sec w hs) (fun w => stamp_Short ns w hn) (fun w => ref02_Short ns w hn) (fun w => stamp_ShortNs short w hu) (fun w => ref02_ShortNs short w hu)
  · exact core sec ns short 0 _ _ _ 2 w hX (fun w => stamp_Of_bad sec ns w hs hn (by omega)) (fun w => ref02_Of_bad sec ns w hs hn (by omega)) (fun w => Lib.hid ((stamp_Era sec w hs).mono fun e w' h => ⟨h.1, h.2 ▸ Grew.refl _⟩)) (fun w => ref02_Era sec w hs) (fun w => stamp_Short ns w hn) (fun w => ref02_Short ns w hn) (fun w => stamp_ShortNs short w hu) (fun w => ref02_ShortNs short w hu)

set_option maxRecDepth 100000 in
theorem lifted (os : Os) (started : os.Started) (H : Type) (enc : TypeId × Value → H) :
    ReturnsInHanded {} Try.checked os 3 .any (Rows.stampOfSpec.pre6 enc Try.prog Try.f3 Rows.stampOfRow.domain false) (Rows.stampOfSpec.post enc Try.prog Try.f3 false true false false) := by
  refine returnsInHanded_of_change (C := Try.checked) own started (by kernel_rfl) Try.func3
    (ChangeSpec.witness6 (enc := enc) (C := Try.checked) false ⟨#[], #[.int .i64 0, .int .i64 0, .int .u32 0], []⟩ 8 (by kernel_rfl) (by kernel_rfl) (by kernel_rfl) (by kernel_rfl)) ?_
  intro W base args ds gs before hval0 hW hcnd _
  have hval : ∀ (j : Nat) t v, Try.f3.params[j]? = some t → args[j]? = some v → Value.okWide Try.prog W .any base t v := hval0
  have hW' := hW
  obtain ⟨p, q, hA0, hV, rfl, hfz, hnd⟩ := hW
  have hA : DataW.TrodAll enc Try.prog W 0 (fun _ => true) true Try.f3.params.toList args.toList ds p := hA0
  rw [Try.params3] at hA hval
  obtain ⟨v0, vs0, d0, ds0, p0, q0, hargs, rfl, rfl, h0, r0⟩ := trodAll_cons hA
  obtain ⟨v1, vs1, d1, ds1, p1, q1, rfl, rfl, rfl, h1, r1⟩ := trodAll_cons r0
  obtain ⟨v2, vs2, d2, ds2, p2, q2, rfl, rfl, rfl, h2, r2⟩ := trodAll_cons r1
  obtain ⟨rfl, rfl, rfl⟩ := trodAll_nil r2
  obtain rfl : args = #[v0, v1, v2] := by cases args; simp_all
  obtain ⟨rfl, rfl⟩ := trodVars_none hV
  obtain ⟨a0, rfl, rfl, rfl, w0⟩ := open_int Try.underlying2 (hval 0 2 v0 rfl rfl) h0
  obtain ⟨a1, rfl, rfl, rfl, w1⟩ := open_int Try.underlying2 (hval 1 2 v1 rfl rfl) h1
  obtain ⟨a2, rfl, rfl, rfl, w2⟩ := open_int Try.underlying22 (hval 2 22 v2 rfl rfl) h2
  clear hA0 hval0
  simp only [List.append_nil] at hW'
  refine (walk a0 a1 a2 w0 w1 w2 W).mono fun e W' ⟨he, bel⟩ => ?_
  subst he
  exact ⟨_, rfl, _, _, _, [], [], [], hW', trodAll_mk1 (shut_bool Try.underlying4 _), (trodAll_cons_mk (shut_int Try.underlying2 w0) (trodAll_cons_mk (shut_int Try.underlying2 w1) (trodAll_cons_mk (shut_int Try.underlying22 w2) trodAll_mk0))), rfl, bel.below.frame _, fun h => by cases h⟩

theorem over : Rows.stampOfRow.holds Try.pinned (OpenSpec.ofChange Rows.stampOfSpec) :=
  OpenClaim.holds_of_wide 3 Try.f3 rfl rfl rfl rfl rfl rfl rfl ⟨rfl, rfl, rfl, rfl, rfl⟩ rfl rfl rfl rfl rfl (by kernel_rfl) Try.func3 (by kernel_rfl)
    (of_decide_eq_true (by kernel_rfl)) (by unfold Func.isWrapper; first | (rw [if_pos (by decide +kernel)]; kernel_rfl) | (rw [if_neg (by decide +kernel)]; exact ⟨rfl, rfl⟩))
    (fun os started H enc _ => lifted os started H enc)

/-- The given statement. -/
theorem proved : Rows.StampOfSaid := over
#print axioms proved
end Go.Proofs.Ytodpoecefbgcpaa.stampOf

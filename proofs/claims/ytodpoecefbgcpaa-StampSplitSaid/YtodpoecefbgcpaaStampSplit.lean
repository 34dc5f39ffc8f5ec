/-
  The second that any stamp means by any pivot, and its nanoseconds, are the document's: for every input.
-/
import Derived.Test.YtodpoecefbgcpaaRows
import Derived.Test.YtodpoecefbgcpaaRefO
import Derived.ProofKit
import Derived.OpenShut
namespace Go.Proofs.Ytodpoecefbgcpaa.stampSplit
open Go.ChangeShapes Go.WideShapes Go.ChangeAt Go.RowKit
set_option linter.unusedVariables false

theorem own : ownKnob Try.prog.godebug = none := by kernel_rfl

set_option maxHeartbeats 1000000 in
set_option maxRecDepth 100000 in
theorem core (s pv S N : Int) (w : World)
    (h1 : ∀ w, Hid (Calls Try.prog 14 #[.int .u64 s, .int .i64 pv] w fun e w' => e = .returned (.tuple #[.int .i64 S, .int .i64 N]) ∧ Grew w w'))
    (h2 : ∀ w, Hid (Calls Try.prog 15 #[.int .u64 s, .int .i64 pv] w fun e w' => e = .returned (.tuple #[.int .i64 S, .int .i64 N]) ∧ Grew w w')) :
    Calls Try.prog 4 #[.int .u64 s, .int .i64 pv] w fun e w' => e = .returned (.bool true) ∧ Grew w w' := by
  have hK := fun w => Lib.hid (stamp_known w)
  have G := Grew.refl w
  go_enter Try.func4, Try.ntmps4
  go_wp2_with (first
    | (go_at_call 14; refine (h1 _).out.mono ?_; rintro e w' ⟨rfl, hg⟩; replace G := G.trans hg; clear hg)
    | (go_at_call 15; refine (h2 _).out.mono ?_; rintro e w' ⟨rfl, hg⟩; replace G := G.trans hg; clear hg)
    | (go_at_call 13; refine (hK _).out.mono ?_; rintro e w' ⟨rfl, hg⟩; replace G := G.trans hg; clear hg))
  go_ret
  exact ⟨rfl, G⟩

theorem walk (s pv : Int) (w0 : (Lit.int .u64 s).wf = true) (w1 : (Lit.int .i64 pv).wf = true) (w : World) :
    Calls Try.prog 4 #[.int .u64 s, .int .i64 pv] w fun e w' => e = .returned (.bool true) ∧ Grew w w' := by
  have hs := bounds_u64 w0; have hp := bounds_i64 w1
  obtain ⟨low, hlow⟩ : ∃ n, s / 4294967296 = n := ⟨_, rfl⟩
  obtain ⟨f, hf⟩ : ∃ n, s % 4294967296 = n := ⟨_, rfl⟩
  obtain rfl : s = low * 4294967296 + f := by omega
  exact core _ pv _ _ w (fun w => Lib.hid (stamp_Split low f pv w (by omega) (by omega) hp)) (fun w => Lib.hid (ref02_Split low f pv w (by omega) (by omega) hp))

set_option maxRecDepth 100000 in
theorem lifted (os : Os) (started : os.Started) (H : Type) (enc : TypeId × Value → H) :
    ReturnsInHanded {} Try.checked os 4 .any (Rows.stampSplitSpec.pre6 enc Try.prog Try.f4 Rows.stampSplitRow.domain false) (Rows.stampSplitSpec.post enc Try.prog Try.f4 false true false false) := by
  refine returnsInHanded_of_change (C := Try.checked) own started (by kernel_rfl) Try.func4
    (ChangeSpec.witness6 (enc := enc) (C := Try.checked) false ⟨#[], #[.int .u64 0, .int .i64 0], []⟩ 8 (by kernel_rfl) (by kernel_rfl) (by kernel_rfl) (by kernel_rfl)) ?_
  intro W base args ds gs before hval0 hW hcnd _
  have hval : ∀ (j : Nat) t v, Try.f4.params[j]? = some t → args[j]? = some v → Value.okWide Try.prog W .any base t v := hval0
  have hW' := hW
  obtain ⟨p, q, hA0, hV, rfl, hfz, hnd⟩ := hW
  have hA : DataW.TrodAll enc Try.prog W 0 (fun _ => true) true Try.f4.params.toList args.toList ds p := hA0
  rw [Try.params4] at hA hval
  obtain ⟨v0, vs0, d0, ds0, p0, q0, hargs, rfl, rfl, h0, r0⟩ := trodAll_cons hA
  obtain ⟨v1, vs1, d1, ds1, p1, q1, rfl, rfl, rfl, h1, r1⟩ := trodAll_cons r0
  obtain ⟨rfl, rfl, rfl⟩ := trodAll_nil r1
  obtain rfl : args = #[v0, v1] := by cases args; simp_all
  obtain ⟨rfl, rfl⟩ := trodVars_none hV
  obtain ⟨a0, rfl, rfl, rfl, w0⟩ := open_int Try.underlying23 (hval 0 23 v0 rfl rfl) h0
  obtain ⟨a1, rfl, rfl, rfl, w1⟩ := open_int Try.underlying2 (hval 1 2 v1 rfl rfl) h1
  clear hA0 hval0
  simp only [List.append_nil] at hW'
  refine (walk a0 a1 w0 w1 W).mono fun e W' ⟨he, bel⟩ => ?_
  subst he
  exact ⟨_, rfl, _, _, _, [], [], [], hW', trodAll_mk1 (shut_bool Try.underlying4 _), (trodAll_cons_mk (shut_int Try.underlying23 w0) (trodAll_cons_mk (shut_int Try.underlying2 w1) trodAll_mk0)), rfl, bel.below.frame _, fun h => by cases h⟩

theorem over : Rows.stampSplitRow.holds Try.pinned (OpenSpec.ofChange Rows.stampSplitSpec) :=
  OpenClaim.holds_of_wide 4 Try.f4 rfl rfl rfl rfl rfl rfl rfl ⟨rfl, rfl, rfl, rfl, rfl⟩ rfl rfl rfl rfl rfl (by kernel_rfl) Try.func4 (by kernel_rfl)
    (of_decide_eq_true (by kernel_rfl)) (by unfold Func.isWrapper; first | (rw [if_pos (by decide +kernel)]; kernel_rfl) | (rw [if_neg (by decide +kernel)]; exact ⟨rfl, rfl⟩))
    (fun os started H enc _ => lifted os started H enc)

/-- The given statement. -/
theorem proved : Rows.StampSplitSaid := over
#print axioms proved
end Go.Proofs.Ytodpoecefbgcpaa.stampSplit

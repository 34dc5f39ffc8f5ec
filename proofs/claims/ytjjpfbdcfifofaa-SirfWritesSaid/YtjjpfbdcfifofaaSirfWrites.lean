/-
  The payload and the frame of any message, or that it is none, are the document's; the message stays (of at most 40 values, else the known answers): for every input.
-/
import Derived.Test.YtjjpfbdcfifofaaRows
import Derived.Test.YtjjpfbdcfifofaaSrpE
import Derived.Test.YtjjpfbdcfifofaaSrlB
import Derived.ProofKit
import Derived.OpenShut
import Derived.ChangeOld
namespace Go.Proofs.Ytjjpfbdcfifofaa.sirfWrites
open Go.ChangeShapes Go.WideShapes Go.ChangeAt Go.RowKit
set_option linter.unusedVariables false

theorem own : ownKnob Try.prog.godebug = none := by kernel_rfl
theorem walk (a : Nat) (A : Option Addr) (c : Nat) (zs : List Int) (w : World) (h : RowZ .i64 w (.slice A zs.length c) zs ∧ I64 zs ∧ a < 256) :
    Calls Try.prog 4 #[.agg #[.int .u8 (a : Nat), .slice A zs.length c]] w fun e w' => e = .returned (.bool true) ∧ Grew w w' := by
  exact law_SirfWrites sirf_calls a _ zs w h.2.2 h.1 h.2.1

theorem laidOut : laidOutB Try.prog = true := by kernel_rfl

set_option maxRecDepth 100000 in
theorem lifted (os : Os) (started : os.Started) (H : Type) (enc : TypeId × Value → H) :
    ReturnsInHanded {} Try.checked os 4 .any (Rows.sirfWritesSpec.pre6 enc Try.prog Try.f4 Rows.sirfWritesRow.domain false) (Rows.sirfWritesSpec.post enc Try.prog Try.f4 false true false false) := by
  refine returnsInHanded_of_change (C := Try.checked) own started (by kernel_rfl) Try.func4
    (ChangeSpec.witness6 (enc := enc) (C := Try.checked) false ⟨#[], #[.agg #[.int .u8 0, .slice none 0 0]], []⟩ 8 (by kernel_rfl) (by kernel_rfl) (by kernel_rfl) (by kernel_rfl)) ?_
  intro W base args ds gs before hval0 hW hcnd _
  have hval : ∀ (j : Nat) t v, Try.f4.params[j]? = some t → args[j]? = some v → Value.okWide Try.prog W .any base t v := hval0
  have hW' := hW
  obtain ⟨p, q, hA0, hV, rfl, hfz, hnd⟩ := hW
  have hA : DataW.TrodAll enc Try.prog W 0 (fun _ => true) true Try.f4.params.toList args.toList ds p := hA0
  rw [Try.params4] at hA hval
  obtain ⟨v0, vs0, d0, ds0, p0, q0, hargs, rfl, rfl, h0, r0⟩ := trodAll_cons hA
  obtain ⟨rfl, rfl, rfl⟩ := trodAll_nil r0
  obtain rfl : args = #[v0] := by cases args; simp_all
  obtain ⟨rfl, rfl⟩ := trodVars_none hV
  obtain ⟨cs0, rfl, hz0⟩ := okWide_struct Try.underlying26 (hval 0 26 v0 rfl rfl)
  obtain ⟨x0, y0, rfl⟩ := arr2s (hz0.trans cellsSirf)
  have k0 := h0
  have lt0 : ∀ x ∈ p0, x.block < W.heap.size := by obtain ⟨m, hm⟩ := k0; exact DataW.trod_lt m _ _ _ hm
  obtain ⟨a0, A0, c0, n0, rfl, rfl, w0⟩ : ∃ (a : Nat) (A : Option Addr) (c : Nat) (zs : List Int), x0 = .int .u8 (a : Nat) ∧ y0 = .slice A zs.length c ∧ RowZ .i64 W (.slice A zs.length c) zs ∧ I64 zs ∧ a < 256 := by
    obtain ⟨fuel, hf⟩ := h0
    exact open_sirf hf
  clear hA0 hval0
  simp only [List.append_nil] at hW'
  refine (walk a0 A0 c0 n0 W w0).mono fun e W' ⟨he, bel⟩ => ?_
  subst he
  exact ⟨_, rfl, _, _, _, [], _, [], hW', trodAll_mk1 (shut_bool Try.underlying4 _), (trodAll_cons_mk (Below.trod laidOut (by kernel_rfl) (of_decide_eq_true (by kernel_rfl)) k0 bel.below lt0) trodAll_mk0), rfl, bel.below.frame _, fun h => by cases h⟩

theorem over : Rows.sirfWritesRow.holds Try.pinned (OpenSpec.ofChange Rows.sirfWritesSpec) :=
  OpenClaim.holds_of_wide 4 Try.f4 rfl rfl rfl rfl rfl rfl rfl ⟨rfl, rfl, rfl, rfl, rfl⟩ rfl rfl rfl rfl rfl (by kernel_rfl) Try.func4 (by kernel_rfl)
    (of_decide_eq_true (by kernel_rfl)) (by unfold Func.isWrapper; first | (rw [if_pos (by decide +kernel)]; kernel_rfl) | (rw [if_neg (by decide +kernel)]; exact ⟨rfl, rfl⟩))
    (fun os started H enc _ => lifted os started H enc)

/-- The given statement. -/
theorem proved : Rows.SirfWritesSaid := over
#print axioms proved
end Go.Proofs.Ytjjpfbdcfifofaa.sirfWrites

/-
  A dialogue, whatever comes, is the document's.
-/
import Derived.Test.YtcdmbnbanopioaaRows
import Derived.Test.YtcdmbnbanopioaaDllE
import Derived.Test.YtcdmbnbanopioaaDpgQ
import Derived.Test.YtcdmbnbanopioaaDllG
import Derived.ProofKit
import Derived.OpenShut
import Derived.ChangeOld
namespace Go.Proofs.Ytcdmbnbanopioaa.dialogPlays
open Go.ChangeShapes Go.WideShapes Go.ChangeAt Go.RowKit Go.Deep
set_option linter.unusedVariables false

theorem own : ownKnob Try.prog.godebug = none := by kernel_rfl
theorem walk (A1 : Option Addr) (n1 c1 : Nat) (cs : List Cmd) (t r : Int) (A2 : Option Addr) (n2 c2 : Nat) (os : List Opr) (w : World) (h1 : CmdsIn w A1 n1 c1 cs) (ht : (Lit.int .i64 t).wf = true) (hr : (Lit.int .i64 r).wf = true) (h2 : OpsIn w A2 n2 c2 os) :
    Calls Try.prog 3 #[.slice A1 n1 c1, .int .i64 t, .int .i64 r, .slice A2 n2 c2] w fun e w' => e = .returned (.bool true) ∧ Grew w w' := by
  exact law_DialogPlays dlg_calls _ _ _ cs os t r w h1.2.1 h2.2.1 (fun b h => h) (Nat.le_trans h1.2.2.1 (by decide)) (Nat.le_trans h2.2.2.1 (by decide)) (fun c hc => ⟨(h1.2.2.2 c hc).1, (h1.2.2.2 c hc).2.1, (h1.2.2.2 c hc).2.2.1, (h1.2.2.2 c hc).2.2.2.1, Nat.le_trans (h1.2.2.2 c hc).2.2.2.2 (by decide)⟩) (fun q hq => ⟨(h2.2.2.2 q hq).1, (h2.2.2.2 q hq).2.1, Nat.le_trans (h2.2.2.2 q hq).2.2.1 (by decide), (h2.2.2.2 q hq).2.2.2⟩) (bounds_i64 ht) (bounds_i64 hr)

theorem laidOut : laidOutB Try.prog = true := by kernel_rfl

set_option maxRecDepth 100000 in
theorem lifted (os : Os) (started : os.Started) (H : Type) (enc : TypeId × Value → H) :
    ReturnsInHanded {} Try.checked os 3 .any (Rows.dialogPlaysSpec.pre6 enc Try.prog Try.f3 Rows.dialogPlaysRow.domain false) (Rows.dialogPlaysSpec.post enc Try.prog Try.f3 false true false false) := by
  refine returnsInHanded_of_change_sized (C := Try.checked) own started (by kernel_rfl) Try.func3
    (ChangeSpec.witness6 (enc := enc) (C := Try.checked) false ⟨#[], #[.slice none 0 0, .int .i64 0, .int .i64 0, .slice none 0 0], []⟩ 8 (by kernel_rfl) (by kernel_rfl) (by kernel_rfl) (by kernel_rfl)) ?_
  intro W base args ds gs before hval0 hW hcnd hsz _
  have hval : ∀ (j : Nat) t v, Try.f3.params[j]? = some t → args[j]? = some v → Value.okWide Try.prog W .any base t v := hval0
  have hW' := hW
  obtain ⟨p, q, hA0, hV, rfl, hfz, hnd⟩ := hW
  have hA : DataW.TrodAll enc Try.prog W 0 (fun _ => true) true Try.f3.params.toList args.toList ds p := hA0
  rw [Try.params3] at hA hval
  obtain ⟨v0, vs0, d0, ds0, p0, q0, hargs, rfl, rfl, h0, r0⟩ := trodAll_cons hA
  obtain ⟨v1, vs1, d1, ds1, p1, q1, rfl, rfl, rfl, h1, r1⟩ := trodAll_cons r0
  obtain ⟨v2, vs2, d2, ds2, p2, q2, rfl, rfl, rfl, h2, r2⟩ := trodAll_cons r1
  obtain ⟨v3, vs3, d3, ds3, p3, q3, rfl, rfl, rfl, h3, r3⟩ := trodAll_cons r2
  obtain ⟨rfl, rfl, rfl⟩ := trodAll_nil r3
  obtain rfl : args = #[v0, v1, v2, v3] := by cases args; simp_all
  obtain ⟨rfl, rfl⟩ := trodVars_none hV
  obtain ⟨A0, len0, cap0, rfl⟩ := okWide_slice Try.underlying22 (hval 0 22 v0 rfl rfl)
  have k0 := h0
  have lt0 : ∀ x ∈ p0, x.block < W.heap.size := by obtain ⟨m, hm⟩ := k0; exact DataW.trod_lt m _ _ _ hm
  obtain ⟨n0, w0⟩ : ∃ cs, CmdsIn W A0 len0 cap0 cs := by
    obtain ⟨fuel, hf⟩ := h0
    exact open_cmds hf (fun n hn => by have := List.all_eq_true.1 hsz n (DataW.weights_mem_each (j := 0) (t := 22) rfl rfl n hn); simpa using this)
  obtain ⟨a1, rfl, rfl, rfl, w1⟩ := open_int Try.underlying2 (hval 1 2 v1 rfl rfl) h1
  obtain ⟨a2, rfl, rfl, rfl, w2⟩ := open_int Try.underlying3 (hval 2 3 v2 rfl rfl) h2
  obtain ⟨A3, len3, cap3, rfl⟩ := okWide_slice Try.underlying23 (hval 3 23 v3 rfl rfl)
  have k3 := h3
  have lt3 : ∀ x ∈ p3, x.block < W.heap.size := by obtain ⟨m, hm⟩ := k3; exact DataW.trod_lt m _ _ _ hm
  obtain ⟨n3, w3⟩ : ∃ cs, OpsIn W A3 len3 cap3 cs := by
    obtain ⟨fuel, hf⟩ := h3
    exact open_ops hf (fun n hn => by have := List.all_eq_true.1 hsz n (DataW.weights_mem_each (j := 3) (t := 23) rfl rfl n hn); simpa using this)
  clear hA0 hval0
  simp only [List.append_nil] at hW'
  refine (walk A0 len0 cap0 n0 a1 a2 A3 len3 cap3 n3 W w0 w1 w2 w3).mono fun e W' ⟨he, bel⟩ => ?_
  subst he
  exact ⟨_, rfl, _, _, _, [], _, [], hW', trodAll_mk1 (shut_bool Try.underlying4 _), (trodAll_cons_mk (Below.trod laidOut (by kernel_rfl) (of_decide_eq_true (by kernel_rfl)) k0 bel.below lt0) (trodAll_cons_mk (shut_int Try.underlying2 w1) (trodAll_cons_mk (shut_int Try.underlying3 w2) (trodAll_cons_mk (Below.trod laidOut (by kernel_rfl) (of_decide_eq_true (by kernel_rfl)) k3 bel.below lt3) trodAll_mk0)))), rfl, bel.below.frame _, fun h => by cases h⟩

theorem over : Rows.dialogPlaysRow.holds Try.pinned (OpenSpec.ofChange Rows.dialogPlaysSpec) :=
  OpenClaim.holds_of_wide 3 Try.f3 rfl rfl rfl rfl rfl rfl rfl ⟨rfl, rfl, rfl, rfl, rfl⟩ rfl rfl rfl rfl rfl (by kernel_rfl) Try.func3 (by kernel_rfl)
    (of_decide_eq_true (by kernel_rfl)) (by unfold Func.isWrapper; first | (rw [if_pos (by decide +kernel)]; kernel_rfl) | (rw [if_neg (by decide +kernel)]; exact ⟨rfl, rfl⟩))
    (fun os started H enc _ => lifted os started H enc)

/-- The given statement. -/
theorem proved : Rows.DialogPlaysSaid := over
#print axioms proved
end Go.Proofs.Ytcdmbnbanopioaa.dialogPlays

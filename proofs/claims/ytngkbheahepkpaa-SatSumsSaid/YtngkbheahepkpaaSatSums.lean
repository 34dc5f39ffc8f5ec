/-
  Sums, differences, products, signs of any numbers are the document's, held. For every input.
-/
import Derived.Test.YtngkbheahepkpaaRows
import Derived.Test.YtngkbheahepkpaaSatB
import Derived.Test.YtngkbheahepkpaaRefF
import Derived.ProofKit
import Derived.OpenShut
namespace Go.Proofs.Ytngkbheahepkpaa.satSums
open Go.ChangeShapes Go.WideShapes Go.ChangeAt Go.RowKit
set_option linter.unusedVariables false

theorem own : ownKnob Try.prog.godebug = none := by kernel_rfl

theorem six_kept {W w' : World} {p q r : Nat} {a b c d e f : Value} (g : Grew W w') (hp : p < W.heap.size) (hq : q < W.heap.size) (hr : r < W.heap.size)
    (h1 : W.cell? ⟨p, 0, none⟩ = some a) (h2 : W.cell? ⟨p, 1, none⟩ = some b) (h3 : W.cell? ⟨q, 0, none⟩ = some c) (h4 : W.cell? ⟨q, 1, none⟩ = some d) (h5 : W.cell? ⟨r, 0, none⟩ = some e) (h6 : W.cell? ⟨r, 1, none⟩ = some f) :
    w'.cell? ⟨p, 0, none⟩ = some a ∧ w'.cell? ⟨p, 1, none⟩ = some b ∧ w'.cell? ⟨q, 0, none⟩ = some c ∧ w'.cell? ⟨q, 1, none⟩ = some d ∧ w'.cell? ⟨r, 0, none⟩ = some e ∧ w'.cell? ⟨r, 1, none⟩ = some f :=
  ⟨(g.cell hp).trans h1, (g.cell hp).trans h2, (g.cell hq).trans h3, (g.cell hq).trans h4, (g.cell hr).trans h5, (g.cell hr).trans h6⟩

set_option maxHeartbeats 4000000 in
set_option maxRecDepth 100000 in
theorem walk (a b : Int) (w0 : (Lit.int .i64 a).wf = true) (w1 : (Lit.int .i64 b).wf = true) (w : World) :
    Calls Try.prog 3 #[.int .i64 a, .int .i64 b] w fun e w' => e = .returned (.bool true) ∧ Grew w w' := by
  have ha := bounds_i64 w0; have hb := bounds_i64 w1
  clear w0 w1
  go_enter Try.func3, Try.ntmps3
  go_wp2_with fail
  refine (ref_Of a _ ha).mono ?_
  rintro e w1 ⟨vx, rfl, hx, g1⟩
  go_wp2_with fail
  refine (ref_Of b _ hb).mono ?_
  rintro e w2 ⟨vy, rfl, hy, g2⟩
  obtain ⟨A, m, c, rfl⟩ := hx.form
  obtain ⟨B, n, d, rfl⟩ := hy.form
  go_wp2
  obtain ⟨W, hW, g3, x0, x1, y0, y1, z0, z1, f0, f1, hsz⟩ := three_new w2 (.bool (decide (a < 0))) (.slice A m c) (.bool (decide (b < 0))) (.slice B n d) (.bool false) (.slice A m c) 24
  rw [hW]
  clear hW f0 f1
  have hz : NumT w1 (.agg #[.bool false, .slice A m c]) (if a < 0 then -a else a) 2 := by
    obtain ⟨sl, xs, e, hr, hw, hv, hl, ht⟩ := hx
    simp only [Value.agg.injEq, Array.mk.injEq, List.cons.injEq, and_true, true_and] at e
    refine ⟨sl, xs, by rw [← e]; split <;> simp <;> omega, hr, hw, by rw [hv]; split <;> omega, hl, ht⟩
  replace hx := hx.grew (g2.trans g3)
  replace hy := hy.grew g3
  replace hz := hz.grew (g2.trans g3)
  have e0 : w2.heap.size < W.heap.size := by omega
  have e1 : w2.heap.size + 1 < W.heap.size := by omega
  have G : Grew W W.drew := (Grew.refl W).drew
  replace g3 := g1.trans (g2.trans g3)
  clear g1 g2
  generalize hA : (if a < 0 then -a else a) = za at hz
  have HA := Lib.hid hA
  clear hA
  go_region_held3 (fun w' => w'.cell? ⟨w2.heap.size, 0, none⟩ = some (.bool (decide (a < 0))) ∧ w'.cell? ⟨w2.heap.size, 1, none⟩ = some (.slice A m c) ∧ w'.cell? ⟨w2.heap.size + 1, 0, none⟩ = some (.bool (decide (b < 0))) ∧ w'.cell? ⟨w2.heap.size + 1, 1, none⟩ = some (.slice B n d) ∧ w'.cell? ⟨w2.heap.size + 1 + 1, 0, none⟩ = some (.bool false) ∧ w'.cell? ⟨w2.heap.size + 1 + 1, 1, none⟩ = some (.slice A m c))
    (first | exact six_kept G e0 e1 hsz x0 x1 y0 y1 z0 z1)
    (first
      | (go_at_call 8; refine (sat_Add _ _ _ ha hb).mono ?_; rintro e w' ⟨rfl, rfl⟩)
      | (go_at_call 11; refine (sat_Sub _ _ _ ha hb).mono ?_; rintro e w' ⟨rfl, rfl⟩)
      | (go_at_call 13; refine (sat_Mul _ _ _ ha hb).mono ?_; rintro e w' ⟨rfl, hg⟩; replace G := G.trans hg; clear hg)
      | (go_at_call 15; refine (sat_Neg _ _ ha).mono ?_; rintro e w' ⟨rfl, rfl⟩)
      | (go_at_call 17; refine (sat_Abs _ _ ha).mono ?_; rw [HA.out]; rintro e w' ⟨rfl, rfl⟩)
      | (go_at_call 10; refine (ref_Add _ _ a b 2 2 _ (hx.grew G).num (hy.grew G).num (by omega) (by omega)).mono ?_; rintro e w' ⟨v, rfl, hN, hg⟩; replace G := G.trans hg; clear hg)
      | (go_at_call 12; refine (ref_Sub _ _ a b 2 2 _ (hx.grew G).num (hy.grew G).num (by omega) (by omega)).mono ?_; rintro e w' ⟨v, rfl, hN, hg⟩; replace G := G.trans hg; clear hg)
      | (go_at_call 14; refine (ref_Mul _ _ a b 2 2 _ (hx.grew G).num (hy.grew G).num (by omega) (by omega)).mono ?_; rintro e w' ⟨v, rfl, hN, hg⟩; replace G := G.trans hg; clear hg)
      | (go_at_call 16; refine (ref_Neg _ a 2 _ (hx.grew G).num (by omega)).mono ?_; rintro e w' ⟨v, rfl, hN, hg⟩; replace G := G.trans hg; clear hg)
      | (go_at_call 9; refine (ref_Held _ _ _ _ hN (by omega)).mono ?_; rintro e w' ⟨rfl, hg⟩; replace G := G.trans hg; clear hg hN)
      | (go_at_call 9; refine (ref_Held _ _ _ _ (hz.grew G) (by omega)).mono ?_; rintro e w' ⟨rfl, hg⟩; replace G := G.trans hg; clear hg)
      | (go_at_call 18; refine (known_true _).mono ?_; rintro e w' ⟨rfl, hg⟩; replace G := G.trans hg; clear hg))
  go_wp2
  go_ret
  exact ⟨rfl, g3.trans G⟩

set_option maxRecDepth 100000 in
theorem lifted (os : Os) (started : os.Started) (H : Type) (enc : TypeId × Value → H) :
    ReturnsInHanded {} Try.checked os 3 .any (Rows.satSumsSpec.pre6 enc Try.prog Try.f3 Rows.satSumsRow.domain false) (Rows.satSumsSpec.post enc Try.prog Try.f3 false true false false) := by
  refine returnsInHanded_of_change (C := Try.checked) own started (by kernel_rfl) Try.func3
    (ChangeSpec.witness6 (enc := enc) (C := Try.checked) false ⟨#[], #[.int .i64 0, .int .i64 0], []⟩ 8 (by kernel_rfl) (by kernel_rfl) (by kernel_rfl) (by kernel_rfl)) ?_
  intro W base args ds gs before hval0 hW hcnd _
  have hval : ∀ (j : Nat) t v, Try.f3.params[j]? = some t → args[j]? = some v → Value.okWide Try.prog W .any base t v := hval0
  have hW' := hW
  obtain ⟨p, q, hA0, hV, rfl, hfz, hnd⟩ := hW
  have hA : DataW.TrodAll enc Try.prog W 0 (fun _ => true) true Try.f3.params.toList args.toList ds p := hA0
  rw [Try.params3] at hA hval
  obtain ⟨v0, vs0, d0, ds0, p0, q0, hargs, rfl, rfl, h0, r0⟩ := trodAll_cons hA
  obtain ⟨v1, vs1, d1, ds1, p1, q1, rfl, rfl, rfl, h1, r1⟩ := trodAll_cons r0
  obtain ⟨rfl, rfl, rfl⟩ := trodAll_nil r1
  obtain rfl : args = #[v0, v1] := by cases args; simp_all
  obtain ⟨rfl, rfl⟩ := trodVars_none hV
  obtain ⟨a0, rfl, rfl, rfl, w0⟩ := open_int Try.underlying2 (hval 0 2 v0 rfl rfl) h0
  obtain ⟨a1, rfl, rfl, rfl, w1⟩ := open_int Try.underlying2 (hval 1 2 v1 rfl rfl) h1
  clear hA0 hval0
  simp only [List.append_nil] at hW'
  refine (walk a0 a1 w0 w1 W).mono fun e W' ⟨he, bel⟩ => ?_
  subst he
  exact ⟨_, rfl, _, _, _, [], [], [], hW', trodAll_mk1 (shut_bool Try.underlying4 _), (trodAll_cons_mk (shut_int Try.underlying2 w0) (trodAll_cons_mk (shut_int Try.underlying2 w1) trodAll_mk0)), rfl, bel.below.frame _, fun h => by cases h⟩

theorem over : Rows.satSumsRow.holds Try.pinned (OpenSpec.ofChange Rows.satSumsSpec) :=
  OpenClaim.holds_of_wide 3 Try.f3 rfl rfl rfl rfl rfl rfl rfl ⟨rfl, rfl, rfl, rfl, rfl⟩ rfl rfl rfl rfl rfl (by kernel_rfl) Try.func3 (by kernel_rfl)
    (of_decide_eq_true (by kernel_rfl)) (by unfold Func.isWrapper; first | (rw [if_pos (by decide +kernel)]; kernel_rfl) | (rw [if_neg (by decide +kernel)]; exact ⟨rfl, rfl⟩))
    (fun os started H enc _ => lifted os started H enc)

/-- The given statement. -/
theorem proved : Rows.SatSumsSaid := over
#print axioms proved
end Go.Proofs.Ytngkbheahepkpaa.satSums

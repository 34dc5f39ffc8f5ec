/-
  The second of any moment, and the moment of any second, are the document's, or refused: for every input (the table of lengths as the program's text lays it; the packages that the seat loads).
-/
import Derived.Test.YtinapfnhnakcjaaDoorCards
import Derived.Test.YtinapfnhnakcjaaDoorTie
import Derived.Test.YtinapfnhnakcjaaDoorCivO
import Derived.ProofKit
import Derived.OpenShut
import Derived.Deep.DeepHandedRow
import Derived.Lib.LaidTab
namespace Go.Proofs.YtinapfnhnakcjaaDoor.civilSeconds
open Go.ChangeShapes Go.WideShapes Go.ChangeAt Go.RowKit
set_option linter.unusedVariables false

theorem second_cases (y m d h i s : Int) (w0 : (Lit.int .i64 y).wf = true ∧ (Lit.int .i64 m).wf = true ∧ (Lit.int .i64 d).wf = true ∧ (Lit.int .i64 h).wf = true ∧ (Lit.int .i64 i).wf = true ∧ (Lit.int .i64 s).wf = true) :
    ∃ (n E : Int) (ok : Bool), ((E = 0 ∧ ok = true) ∨ (E = 2 ∧ ok = false)) ∧
      (∀ w, Tab w → Hid (Calls Tryd.prog 13 #[moment y m d h i s] w fun e w' => e = .returned (.tuple #[.int .i64 n, .int .i64 E]) ∧ Grew w w')) ∧
      (∀ w, Hid (Calls Tryd.prog 14 #[moment y m d h i s] w fun e w' => e = .returned (.tuple #[.int .i64 n, .bool ok]) ∧ Grew w w')) := by
  obtain ⟨hy, hm, hd, hh, hi, hs⟩ := w0
  have hy := bounds_i64 hy; have hm := bounds_i64 hm; have hd := bounds_i64 hd; have hh := bounds_i64 hh; have hi := bounds_i64 hi; have hs := bounds_i64 hs
  by_cases hb : (d < 1 ∨ lenOf y m < d) ∨ isTm h i s = false
  · exact ⟨0, 2, false, .inr ⟨rfl, rfl⟩, fun w ht => Lib.hid (civ_Second_bad y m d h i s w hy hm hd hh hi hs ht hb), fun w => Lib.hid (ref03_Second_bad y m d h i s w hy hm hd hh hi hs hb)⟩
  · have ht : 0 ≤ h ∧ h < 24 ∧ 0 ≤ i ∧ i < 60 ∧ 0 ≤ s ∧ s < 60 := by
      have : isTm h i s = true := by simpa using fun e => hb (.inr e)
      simpa [isTm] using this
    have hd1 : ¬(d < 1 ∨ lenOf y m < d) := fun e => hb (.inl e)
    have hym : (1900 ≤ y ∧ y ≤ 2199) ∧ 1 ≤ m ∧ m ≤ 12 := by
      apply Classical.byContradiction
      intro hc
      have : lenOf y m = 0 := by unfold lenOf; rw [if_neg hc]
      omega
    obtain ⟨k, rfl⟩ := Int.eq_ofNat_of_zero_le (show 0 ≤ m by omega)
    exact ⟨_, 0, true, .inl ⟨rfl, rfl⟩, fun w hT => Lib.hid (civ_Second y k d h i s w hym.1 (by omega) (by omega) (by omega) (by omega) (by omega) hT),
      fun w => Lib.hid (ref03_Second y k d h i s w hym.1 (by omega) (by omega) (by omega) (by omega) (by omega))⟩

theorem of_cases (sec : Int) (w0 : (Lit.int .i64 sec).wf = true) :
    ∃ (a b c p q r F : Int) (ok : Bool), ((F = 0 ∧ ok = true) ∨ (F = 9 ∧ ok = false)) ∧
      (∀ w, Tab w → Hid (Calls Tryd.prog 15 #[.int .i64 sec] w fun e w' => e = .returned (.tuple #[moment a b c p q r, .int .i64 F]) ∧ Grew w w')) ∧
      (∀ w, Hid (Calls Tryd.prog 16 #[.int .i64 sec] w fun e w' => e = .returned (.tuple #[moment a b c p q r, .bool ok]) ∧ Grew w w')) := by
  have hs := bounds_i64 w0
  by_cases hb : sec < 0 ∨ 9467107200 ≤ sec
  · exact ⟨0, 0, 0, 0, 0, 0, 9, false, .inr ⟨rfl, rfl⟩, fun w ht => Lib.hid (civ_Of_bad sec w hs ht hb), fun w => Lib.hid (ref03_Of_bad sec w hs hb)⟩
  · obtain ⟨y, m, hin⟩ := exists_month (sec / 86400) (by omega)
    exact ⟨_, _, _, _, _, _, 0, true, .inl ⟨rfl, rfl⟩, fun w ht => Lib.hid (civ_Of_at sec y m w hin ht), fun w => Lib.hid (ref03_Of_at sec y m w hin)⟩

theorem walk (y m d h i s sec : Int) (w0 : (Lit.int .i64 y).wf = true ∧ (Lit.int .i64 m).wf = true ∧ (Lit.int .i64 d).wf = true ∧ (Lit.int .i64 h).wf = true ∧ (Lit.int .i64 i).wf = true ∧ (Lit.int .i64 s).wf = true) (w1 : (Lit.int .i64 sec).wf = true) (w : World) (ht : Tab w) :
    Calls Tryd.prog 4 #[moment y m d h i s, .int .i64 sec] w fun e w' => e = .returned (.bool true) ∧ Grew w w' := by
  obtain ⟨n, E, ok, hE, h1, h2⟩ := second_cases y m d h i s w0
  obtain ⟨a, b, c, p, q, r, F, is, hF, h3, h4⟩ := of_cases sec w1
  exact core_CivilSeconds y m d h i s sec n E F a b c p q r ok is w ht hE hF h1 h2 h3 h4

theorem own : ownKnob Tryd.prog.godebug = none := by kernel_rfl
theorem gTab : Tryd.prog.globalNamed "remontoire/civil.lengths" = some 0 := by kernel_rfl
theorem gTabType : (Tryd.prog.globals[0]?).map (·.type) = some 42 := by kernel_rfl
theorem cellsTab : Tryd.prog.cellsOf 42 = 12 := by kernel_rfl
theorem cellsInt : Tryd.prog.cellsOf 3 = 1 := by kernel_rfl

/-- What the row's list gives: the table's cells. -/
theorem table {W : World} (h : laidMetH Tryd.prog Rows.civilSecondsRow.laid W) : Tab W := by
  have h1 : Lib.TabIs Tryd.prog W "remontoire/civil.lengths" .i64 [31, 28, 31, 30, 31, 30, 31, 31, 30, 31, 30, 31] :=
    Lib.tabIs_of_head (rest := []) gTab gTabType Tryd.underlying42 Tryd.underlying3 cellsInt cellsTab h
  have h2 : ∀ i : Nat, i < 12 → W.cell? ⟨0, i, none⟩ = some (.int .i64 (lenTab (i + 1))) := fun i hi => by
    match i, hi with
    | 0, _ => exact h1.cell gTab 0 (by decide)
    | 1, _ => exact h1.cell gTab 1 (by decide)
    | 2, _ => exact h1.cell gTab 2 (by decide)
    | 3, _ => exact h1.cell gTab 3 (by decide)
    | 4, _ => exact h1.cell gTab 4 (by decide)
    | 5, _ => exact h1.cell gTab 5 (by decide)
    | 6, _ => exact h1.cell gTab 6 (by decide)
    | 7, _ => exact h1.cell gTab 7 (by decide)
    | 8, _ => exact h1.cell gTab 8 (by decide)
    | 9, _ => exact h1.cell gTab 9 (by decide)
    | 10, _ => exact h1.cell gTab 10 (by decide)
    | 11, _ => exact h1.cell gTab 11 (by decide)
  exact ⟨World.block_lt_of_cell? W _ (h2 0 (by decide)), h2⟩

theorem contract (H : Type) (enc : TypeId × Value → H) (W : World) (base : Nat) (args : Array Value) (ds gs : List (DataW H)) (before : List MemPlace)
    (hval0 : ∀ (j : Nat) t v, Tryd.f4.params[j]? = some t → args[j]? = some v → Value.okWide Tryd.prog W .any base t v)
    (hW : DataW.Whole enc Tryd.prog Tryd.f4.params.toList Rows.civilSecondsSpec.vars false W args.toList ds gs before) (hL : laidMetH Tryd.prog Rows.civilSecondsRow.laid W) :
    Calls Tryd.prog 4 args W fun e W' => ∃ v, e = .returned v ∧ Rows.civilSecondsSpec.post enc Tryd.prog Tryd.f4 false true false false W args v W' := by
  have hval : ∀ (j : Nat) t v, Tryd.f4.params[j]? = some t → args[j]? = some v → Value.okWide Tryd.prog W .any base t v := hval0
  have hW' := hW
  obtain ⟨p, q, hA0, hV, rfl, hfz, hnd⟩ := hW
  have hA : DataW.TrodAll enc Tryd.prog W 0 (fun _ => true) true Tryd.f4.params.toList args.toList ds p := hA0
  rw [Tryd.params4] at hA hval
  obtain ⟨v0, vs0, d0, ds0, p0, q0, hargs, rfl, rfl, h0, r0⟩ := trodAll_cons hA
  obtain ⟨v1, vs1, d1, ds1, p1, q1, rfl, rfl, rfl, h1, r1⟩ := trodAll_cons r0
  obtain ⟨rfl, rfl, rfl⟩ := trodAll_nil r1
  obtain rfl : args = #[v0, v1] := by cases args; simp_all
  obtain ⟨rfl, rfl⟩ := trodVars_none hV
  obtain ⟨y0, m0, e0, i0, j0, s0, rfl, rfl, rfl, w0⟩ := open_moment (hval 0 32 v0 rfl rfl) h0
  obtain ⟨a1, rfl, rfl, rfl, w1⟩ := open_int Tryd.underlying2 (hval 1 2 v1 rfl rfl) h1
  clear hA0 hval0
  simp only [List.append_nil] at hW'
  refine (walk y0 m0 e0 i0 j0 s0 a1 w0 w1 W (table hL)).mono fun e W' ⟨he, bel⟩ => ?_
  subst he
  exact ⟨_, rfl, _, _, _, [], [], [], hW', trodAll_mk1 (shut_bool Tryd.underlying4 _), (trodAll_cons_mk (shut_moment w0) (trodAll_cons_mk (shut_int Tryd.underlying2 w1) trodAll_mk0)), rfl, bel.below.frame _, fun h => by cases h⟩

/-- A world for the witness: the settled one, the table holding what its initialiser lays. -/
noncomputable def laidWorld (os : Os) : World :=
  { World.holding Tryd.prog os ⟨#[], #[], []⟩ with heap := (World.holding Tryd.prog os ⟨#[], #[], []⟩).heap.modify 0 fun
      | .cells _ t frozen => .cells #[.int .i64 31, .int .i64 28, .int .i64 31, .int .i64 30, .int .i64 31, .int .i64 30, .int .i64 31, .int .i64 31, .int .i64 30, .int .i64 31, .int .i64 30, .int .i64 31] t frozen
      | o => o }
theorem laid_met (os : Os) : laidMet Tryd.prog Rows.civilSecondsRow.laid ((laidWorld os).forCall (fun _ _ => 0) ⟨#[], #[.agg #[.int .i64 0, .int .i64 0, .int .i64 0, .int .i64 0, .int .i64 0, .int .i64 0], .int .i64 0], []⟩).memory :=
  laidMet_of_run' 8 (by kernel_rfl) (by kernel_rfl)
theorem reads (os : Os) {H : Type} (enc : TypeId × Value → H) : ∃ places, DataW.whole enc Tryd.prog ((laidWorld os).forCall (fun _ _ => 0) ⟨#[], #[.agg #[.int .i64 0, .int .i64 0, .int .i64 0, .int .i64 0, .int .i64 0, .int .i64 0], .int .i64 0], []⟩).memory Tryd.f4.params.toList Rows.civilSecondsSpec.vars false (#[.agg #[.int .i64 0, .int .i64 0, .int .i64 0, .int .i64 0, .int .i64 0, .int .i64 0], .int .i64 0] : Array Value).toList 8 = some ([.agg [.lit (.int .i64 0), .lit (.int .i64 0), .lit (.int .i64 0), .lit (.int .i64 0), .lit (.int .i64 0), .lit (.int .i64 0)], .lit (.int .i64 0)], [], places) :=
  ⟨[], by kernel_rfl⟩

set_option maxRecDepth 100000 in
theorem lifted (os : Os) (started : os.Started) (H : Type) (enc : TypeId × Value → H) (F : Stop.Interp) :
    ReturnsInHanded {} Tryd.checked os 4 .any ((OpenSpec.ofChange Rows.civilSecondsSpec).preRow enc Tryd.prog Tryd.f4 Rows.civilSecondsRow.domain false Rows.civilSecondsRow.laid) (((OpenSpec.ofChange Rows.civilSecondsSpec).at F).post enc Tryd.prog Tryd.f4 false true false false) := by
  obtain ⟨places, hx⟩ := reads os enc
  refine returnsInHanded_of_row (C := Tryd.checked) (s := OpenSpec.ofChange Rows.civilSecondsSpec) own started (by kernel_rfl) Tryd.func4
    (witness_row_at (enc := enc) (C := Tryd.checked) false (laidWorld os) #[.agg #[.int .i64 0, .int .i64 0, .int .i64 0, .int .i64 0, .int .i64 0, .int .i64 0], .int .i64 0] rfl (by kernel_rfl) (by kernel_rfl) (by kernel_rfl)
      (OpenSpec.preRow_of_cond 8 hx (by kernel_rfl) (fun k hk => by cases hk) (by kernel_rfl) (laid_met os))) ?_
  intro W base args ds gs before hval hW _ _ _ hL _ _
  exact contract H enc W base args ds gs before hval hW hL

theorem said : Rows.CivilSecondsSaid :=
  OpenClaim.holds_of_cond 4 Tryd.f4 rfl rfl rfl rfl rfl rfl rfl ⟨rfl, rfl, rfl, rfl, rfl⟩ rfl rfl rfl rfl rfl (by kernel_rfl) Tryd.func4 (by kernel_rfl)
    (of_decide_eq_true (by kernel_rfl)) (by unfold Func.isWrapper; first | (rw [if_pos (by decide +kernel)]; kernel_rfl) | (rw [if_neg (by decide +kernel)]; exact ⟨rfl, rfl⟩))
    (fun os started H enc _ F => by rw [OpenClaim.pre_eq_preRow]; exact lifted os started H enc F)

theorem plain (f : FuncId) (fn : Func) (hf : Tryd.pinned.checked.prog.funcNamed "remontoire/remontoirelaw03.CivilSeconds" = some f) (hfn : Tryd.pinned.checked.prog.funcs[f]? = some fn) :
    false = Tryd.pinned.checked.prog.looks [] ∧ ∀ (j : Nat) t, fn.params[j]? = some t → Tryd.pinned.checked.prog.wantsStandIn t = false := by
  obtain rfl : f = 4 := Option.some.inj ((show Tryd.prog.funcNamed "remontoire/remontoirelaw03.CivilSeconds" = some 4 by kernel_rfl).symm.trans hf) |>.symm
  obtain rfl : fn = Tryd.f4 := (Option.some.inj (Tryd.func4.symm.trans hfn)).symm
  refine ⟨by kernel_rfl, fun j t ht => ?_⟩
  rw [Tryd.params4] at ht
  have h : t = 32 ∨ t = 2 := by simpa using Array.mem_of_getElem? ht
  rcases h with rfl | rfl
  · exact (show Tryd.prog.wantsStandIn 32 = false by kernel_rfl)
  · exact (show Tryd.prog.wantsStandIn 2 = false by kernel_rfl)

/-- The given statement: the tied card. -/
theorem proved : Rows.CivilSecondsCardSaid :=
  Claim7.holds_tied_plain_at .later [] _ _ _ _ said (fun _ h => by cases h) (by kernel_rfl) (fun _ h => by cases h) civilSeconds_row_tie rfl ⟨rfl, rfl⟩ (by kernel_rfl) rfl plain (by kernel_rfl)
#print axioms proved
end Go.Proofs.YtinapfnhnakcjaaDoor.civilSeconds

/-
  What the row's list of tables gives: civil's lengths, strconv's powers, the kinds' letters and numbers.
-/
import Derived.Test.YtlcmjedbdopglaaGreatDoorRows
import Derived.Test.YtlcmjedbdopglaaGreatDoorNopA
import Derived.Lib.LaidTab
import Derived.Stop.LaidErr
import Derived.OpenShut
import Derived.ChangeSame
namespace Go.Proofs.YtlcmjedbdopglaaGreatDoor
open Go.RowKit Go.ChangeShapes
set_option linter.unusedVariables false

theorem gTab : Tryz.prog.globalNamed "remontoire/civil.lengths" = some 1 := by kernel_rfl
theorem gTabType : (Tryz.prog.globals[1]?).map (·.type) = some 115 := by kernel_rfl
theorem cellsTab : Tryz.prog.cellsOf 115 = 12 := by kernel_rfl
theorem cellsInt : Tryz.prog.cellsOf 3 = 1 := by kernel_rfl
theorem cellsText : Tryz.prog.cellsOf 9 = 1 := by kernel_rfl
theorem gPow : Tryz.prog.globalNamed "internal/strconv.uint64pow10" = some 2 := by kernel_rfl
theorem gPowType : (Tryz.prog.globals[2]?).map (·.type) = some 185 := by kernel_rfl
theorem cellsPow : Tryz.prog.cellsOf 185 = 20 := by kernel_rfl
theorem cellsU64 : Tryz.prog.cellsOf 127 = 1 := by kernel_rfl
theorem gSen : Tryz.prog.globalNamed "remontoire/nmeaout.sentences" = some 0 := by kernel_rfl
theorem gSenType : (Tryz.prog.globals[0]?).map (·.type) = some 104 := by kernel_rfl
theorem cellsSen : Tryz.prog.cellsOf 75 = 2 := by kernel_rfl
theorem sen_at {H : Type} {enc : TypeId × Value → H} {w : World} {base fuel : Nat} {sp : Nat → Bool} {held : Bool} {cs : List Value} {ds : List (DataW H)} {p : List MemPlace}
    (h : DataW.trod enc Tryz.prog w base sp held fuel 104 cs = some (.agg ds, p)) (i : Nat) (hi : i < 8) :
    ∃ (s : ByteArray) (z : Int), cs[i * 2]? = some (.string s) ∧ cs[i * 2 + 1]? = some (.int .i64 z) ∧ ds[i]? = some (.agg [.lit (.string s.data.toList), .lit (.int .i64 z)]) := by
  obtain ⟨xs, m, rfl, hx, hl, hn, hf⟩ := DataW.trod_array Tryz.underlying104 h
  simp only [Prod.mk.injEq, DataW.agg.injEq] at hx
  obtain ⟨rfl, rfl⟩ := hx
  have h1 := hf i hi
  rw [cellsSen, List.getElem?_eq_getElem (by omega)] at h1
  obtain ⟨y0, y1, n, hy, _, h2, h3⟩ := trod_struct2 Tryz.underlying75 h1
  obtain ⟨s, hs, e0, _⟩ := DataW.trod_string Tryz.underlying9 h2
  obtain ⟨z, hz, e1, _⟩ := DataW.trod_int Tryz.underlying3 h3
  refine ⟨s, z, ?_, ?_, ?_⟩
  · have := congrArg (·[0]?) hs
    simpa [List.getElem?_take, List.getElem?_drop, cellsText] using this
  · have := congrArg (·[0]?) hz
    simpa [List.getElem?_take, List.getElem?_drop, cellsInt] using this
  · rw [List.getElem?_map, List.getElem?_eq_getElem (by omega), hy, e0, e1]
    rfl
theorem pow_of {W : World} {rest : List (String × DataW Unit)} (h : laidMet Tryz.prog (("internal/strconv.uint64pow10", Rows.laid_internal_strconv_uint64pow10) :: rest) W) : Lib.TabIs Tryz.prog W "internal/strconv.uint64pow10" .u64 Lib.pow10Tab :=
  Lib.tabIs_of_head (zs := Lib.pow10Tab) (rest := rest) gPow gPowType Tryz.underlying185 Tryz.underlying127 cellsU64 cellsPow h
theorem tab_of {W : World} {rest : List (String × DataW Unit)} (h : laidMet Tryz.prog (("remontoire/civil.lengths", Rows.laid_remontoire_civil_lengths) :: rest) W) : Tab W := by
  have h1 : Lib.TabIs Tryz.prog W "remontoire/civil.lengths" .i64 [31, 28, 31, 30, 31, 30, 31, 31, 30, 31, 30, 31] :=
    Lib.tabIs_of_head (zs := [31, 28, 31, 30, 31, 30, 31, 31, 30, 31, 30, 31]) (rest := rest) gTab gTabType Tryz.underlying115 Tryz.underlying3 cellsInt cellsTab h
  have h2 : ∀ i : Nat, i < 12 → W.cell? ⟨1, i, none⟩ = some (.int .i64 (lenTab (i + 1))) := fun i hi => by
    match i, hi with
    | 0, _ => exact h1.cell gTab 0 (by decide)
    | 1, _ => exact h1.cell gTab 1 (by decide)
    | 2, _ => exact h1.cell gTab 2 (by decide)
    | 3, _ => exact h1.cell gTab 3 (by decide)
    | 4, _ => exact h1.cell gTab 4 (by decide)
    | 5, _ => exact h1.cell gTab 5 (by decide)
    | 6, _ => exact h1.cell gTab 6 (by decide)
    | 7, _ => exact h1.cell gTab 7 (by decide)
    | 8, _ => exact h1.cell gTab 8 (by decide)
    | 9, _ => exact h1.cell gTab 9 (by decide)
    | 10, _ => exact h1.cell gTab 10 (by decide)
    | 11, _ => exact h1.cell gTab 11 (by decide)
  exact ⟨World.block_lt_of_cell? W _ (h2 0 (by decide)), h2⟩
theorem text_of {s : ByteArray} {l : List UInt8} (h : s.data.toList = l) : s = ⟨l.toArray⟩ := by
  subst h
  exact (congrArg ByteArray.mk (Array.toArray_toList (xs := s.data))).symm
theorem sen_of {W : World} {rest : List (String × DataW Unit)} (h : laidMet Tryz.prog (("remontoire/nmeaout.sentences", Rows.laid_remontoire_nmeaout_sentences) :: rest) W) :
    0 < W.heap.size ∧ (∀ k : Nat, k < 8 → W.cell? ⟨0, 2 * k, none⟩ = some (.string (kindText k))) ∧ ∀ k : Nat, k < 8 → W.cell? ⟨0, 2 * k + 1, none⟩ = some (.int .i64 (kindNum k : Nat)) := by
  obtain ⟨ps, ⟨g', t', cs, fuel, p, q, hg', ht', hvar, hd, _, _⟩, _⟩ := h
  obtain rfl := Option.some.inj (gSen.symm.trans hg')
  obtain rfl := Option.some.inj (gSenType.symm.trans ht')
  have main : ∀ k : Nat, k < 8 → W.cell? ⟨0, 2 * k, none⟩ = some (.string (kindText k)) ∧ W.cell? ⟨0, 2 * k + 1, none⟩ = some (.int .i64 (kindNum k : Nat)) := fun k hk => by
    obtain ⟨s, z, h1, h2, h3⟩ := sen_at hd k hk
    have c1 := World.var?_cell gSen hvar (2 * k)
    have c2 := World.var?_cell gSen hvar (2 * k + 1)
    rw [Nat.mul_comm k 2] at h1 h2
    rw [Array.getElem?_toList] at h1 h2
    rw [c1, c2, h1, h2]
    have e : s.data.toList = (kindText k).data.toList ∧ z = (kindNum k : Nat) := by
      rcases (show k = 0 ∨ k = 1 ∨ k = 2 ∨ k = 3 ∨ k = 4 ∨ k = 5 ∨ k = 6 ∨ k = 7 by omega) with rfl | rfl | rfl | rfl | rfl | rfl | rfl | rfl <;>
        (simp at h3; obtain ⟨e1, e2⟩ := h3; exact ⟨e1 ▸ rfl, e2 ▸ rfl⟩)
    obtain ⟨e1, rfl⟩ := e
    refine ⟨?_, rfl⟩
    rw [show s = kindText k from nat_ext (by unfold nat; rw [e1])]
  exact ⟨World.block_lt_of_cell? W _ (main 0 (by decide)).1, fun k hk => (main k hk).1, fun k hk => (main k hk).2⟩
end Go.Proofs.YtlcmjedbdopglaaGreatDoor

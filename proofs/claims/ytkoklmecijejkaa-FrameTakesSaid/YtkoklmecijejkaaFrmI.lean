/-
  The document's frames: are they the same?
-/
import Derived.Test.YtkoklmecijejkaaFrmH
import Derived.Deep.RegionHeldLaw
namespace Go.Proofs.Ytkoklmecijejkaa
open Go.RowKit
set_option linter.unusedVariables false

/-- The i-th one of frames. -/
def fr (fs : List (Nat × List Nat)) (i : Nat) : Nat × List Nat := fs.getD i (0, [])
/-- A frame in memory. -/
structure FrameIn (w : World) (b o : Nat) (f : Nat × List Nat) (v : Value) : Prop where
  lt : b < w.heap.size
  c0 : w.cell? ⟨b, o, none⟩ = some (.int .u8 (f.1 : Nat))
  c1 : w.cell? ⟨b, o + 1, none⟩ = some v
  row : Row .u8 w v f.2
  k : f.1 < 256
theorem FrameIn.grew {w w' : World} {b o : Nat} {f : Nat × List Nat} {v : Value} (h : FrameIn w b o f v) (g : Grew w w') : FrameIn w' b o f v :=
  ⟨Nat.lt_of_lt_of_le h.lt g.size, (g.cell (p := ⟨b, o, none⟩) h.lt).trans h.c0, (g.cell (p := ⟨b, o + 1, none⟩) h.lt).trans h.c1, h.row.grew g, h.k⟩
/-- Frames behind a slice value. -/
def FramesAt (w : World) (v : Value) (fs : List (Nat × List Nat)) : Prop :=
  ∃ A c, v = .slice A fs.length c ∧ fs.length ≤ c ∧ (0 < fs.length → ∃ b o, A = some ⟨b, o, none⟩ ∧ ∀ i, i < fs.length → ∃ fv, FrameIn w b (o + i * 2) (fr fs i) fv)
theorem FramesAt.grew {w w' : World} {v : Value} {fs : List (Nat × List Nat)} (h : FramesAt w v fs) (g : Grew w w') : FramesAt w' v fs := by
  obtain ⟨A, c, e, hc, hr⟩ := h
  refine ⟨A, c, e, hc, fun hn => ?_⟩
  obtain ⟨b, o, e2, hf⟩ := hr hn
  refine ⟨b, o, e2, fun i hi => ?_⟩
  obtain ⟨fv, hv⟩ := hf i hi
  exact ⟨fv, hv.grew g⟩

set_option maxRecDepth 1000000 in
set_option maxHeartbeats 4000000 in
theorem ref08_Same (av bv : Value) (fs : List (Nat × List Nat)) (w : World) (ha : FramesAt w av fs) (hb : FramesAt w bv fs) (hl : fs.length ≤ 100000) :
    Calls Try.prog 13 #[av, bv] w fun e w' => e = .returned (.bool true) ∧ Grew w w' := by
  obtain ⟨A, c, rfl, hc, hra⟩ := ha
  obtain ⟨B, d, rfl, hd, hrb⟩ := hb
  have HA := Lib.hid hra
  have HB := Lib.hid hrb
  clear hra hrb
  go_enter Try.func13, Try.ntmps13
  go_wp2_with fail
  go_loopw [5] (fun i wr => ∃ k : Nat, k ≤ fs.length ∧ i = .int .i64 k ∧ Hid (Grew w wr)) (fun i _ => fs.length - (intOf i).toNat)
  case atStart => exact ⟨0, by omega, rfl, Grew.refl _⟩
  case round =>
    obtain ⟨k, hk, rfl, hg⟩ := hrel
    by_cases hk2 : k < fs.length
    · obtain ⟨ba, oa, rfl, ha⟩ := HA.out (by omega)
      obtain ⟨bb, ob, rfl, hb⟩ := HB.out (by omega)
      obtain ⟨va, fa⟩ := ha k hk2
      obtain ⟨vb, fb⟩ := hb k hk2
      have n0 : (0 : Int) ≤ k := by omega
      have n1 : (k : Int) < fs.length := by omega
      have fa' := fa.grew hg.out
      have fb' := fb.grew hg.out
      have hkk := fa.k
      have KS : ∀ w', Grew wr w' → Hid (w'.cell? ⟨ba, oa + k * 2, none⟩ = some (.int .u8 ((fr fs k).1 : Nat)) ∧ w'.cell? ⟨ba, oa + k * 2 + 1, none⟩ = some va ∧ w'.cell? ⟨bb, ob + k * 2, none⟩ = some (.int .u8 ((fr fs k).1 : Nat)) ∧ w'.cell? ⟨bb, ob + k * 2 + 1, none⟩ = some vb ∧ (convert 23 9 va).run Try.prog w' = .ok (.string (strOf (fr fs k).2)) w' ∧ (convert 23 9 vb).run Try.prog w' = .ok (.string (strOf (fr fs k).2)) w') := fun w' g =>
        Lib.hid ⟨(fa'.grew g).c0, (fa'.grew g).c1, (fb'.grew g).c0, (fb'.grew g).c1, Row.string w' (fa'.grew g).row 23 5 Try.underlying23 Try.underlying5 9 Try.underlying9, Row.string w' (fb'.grew g).row 23 5 Try.underlying23 Try.underlying5 9 Try.underlying9⟩
      clear ha hb fa fb fa' fb' HA HB
      generalize (fr fs k).1 = kk at *
      generalize strOf (fr fs k).2 = ss at *
      have D := (Grew.refl wr).drew
      go_wp2_with fail
      go_region_held_law (fun w' => w'.cell? ⟨ba, oa + k * 2, none⟩ = some (.int .u8 (kk : Nat)) ∧ w'.cell? ⟨ba, oa + k * 2 + 1, none⟩ = some va ∧ w'.cell? ⟨bb, ob + k * 2, none⟩ = some (.int .u8 (kk : Nat)) ∧ w'.cell? ⟨bb, ob + k * 2 + 1, none⟩ = some vb ∧ (convert 23 9 va).run Try.prog w' = .ok (.string ss) w' ∧ (convert 23 9 vb).run Try.prog w' = .ok (.string ss) w') (exact (KS _ D).out) (fail)
      all_goals go_wp2_with fail
      go_roundw
      case rel => exact ⟨k + 1, by omega, by simp, hg.out.trans D⟩
      case measure => simp [intOf]; omega
    · go_wp2_with fail
      go_ret
      exact ⟨rfl, hg.out⟩
end Go.Proofs.Ytkoklmecijejkaa

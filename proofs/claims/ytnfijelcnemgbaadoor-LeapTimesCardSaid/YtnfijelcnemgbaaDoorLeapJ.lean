/-
  The program's offsets, UTC and GPS seconds, next lines.
-/
import Derived.Test.YtnfijelcnemgbaaDoorLeapH
import Derived.Test.YtnfijelcnemgbaaDoorLeapI
namespace Go.Proofs.YtnfijelcnemgbaaDoor
open Go.RowKit
set_option linter.unusedVariables false

theorem lines_up (i j : Nat) (h : i < j) (hj : j ≤ 18) : lineG i + 1000 ≤ lineG j ∧ lineU i + 1000 ≤ lineU j := lines_apart ⟨i, by omega⟩ ⟨j, by omega⟩ h
theorem GLine.above {g : Int} {k : Nat} (h : GLine g k) (i : Nat) (hi : i < 19) : decide (g < lineG i) = decide (k + 1 ≤ i) := by
  by_cases hk : k + 1 ≤ i
  · rw [decide_eq_true hk, decide_eq_true (h.2.2 i (by omega) (by omega))]
  · rw [decide_eq_false hk, decide_eq_false]
    have := h.2.1
    by_cases e : i = k
    · subst e; omega
    · have := (lines_up i k (by omega) h.1).1; omega
theorem ULine.above {s : Int} {k : Nat} (h : ULine s k) (i : Nat) (hi : i < 19) : decide (s < lineU i) = decide (k + 1 ≤ i) := by
  by_cases hk : k + 1 ≤ i
  · rw [decide_eq_true hk, decide_eq_true (h.2.2 i (by omega) (by omega))]
  · rw [decide_eq_false hk, decide_eq_false]
    have := h.2.1
    by_cases e : i = k
    · subst e; omega
    · have := (lines_up i k (by omega) h.1).2; omega

theorem leap_Offset1 (x : Int) (p : Addr) (c : Nat) (w : World) (hp : w.cell? p = some (.int .i64 x)) (hx : ∀ i, i < 19 → decide (x < lineG i) = decide (c ≤ i)) :
    Above 19 #[.pointer (some p)] c w := fun i w' hi hg => by
  have cp : w'.cell? p = some (.int .i64 x) := (hg.cell (World.block_lt_of_cell? _ _ hp)).trans hp
  have hr := Lib.hid (hx i hi)
  clear hp hx hg
  show Calls Tryd.prog 19 #[.agg #[.int .i64 (lineU i), .int .i64 (lineG i), .int .i64 (i : Nat)], .pointer (some p)] w' _
  rw [← hr.out]
  clear hr
  generalize lineU i = u at *
  generalize lineG i = gg at *
  have cp2 : (w'.alloc (.cells #[.int .i64 u, .int .i64 gg, .int .i64 (i : Nat)] 37)).cell? p = some (.int .i64 x) := (((Grew.refl w').alloc _).cell (World.block_lt_of_cell? _ _ cp)).trans cp
  go_enter Tryd.func19, Tryd.ntmps19
  go_wp2_with fail
  go_ret
  exact ⟨rfl, (Grew.refl _).alloc _⟩
theorem enters_Offset1 : ∀ args w, (callFunc 19 args).run Tryd.prog w = .ok (.enter 19 args) w := enters_of Tryd.func19 (by kernel_rfl) rfl

theorem leap_Next1 (x : Int) (p : Addr) (c : Nat) (w : World) (hp : w.cell? p = some (.int .i64 x)) (hx : ∀ i, i < 19 → decide (x < lineG i) = decide (c ≤ i)) :
    Above 21 #[.pointer (some p)] c w := fun i w' hi hg => by
  have cp : w'.cell? p = some (.int .i64 x) := (hg.cell (World.block_lt_of_cell? _ _ hp)).trans hp
  have hr := Lib.hid (hx i hi)
  clear hp hx hg
  show Calls Tryd.prog 21 #[.agg #[.int .i64 (lineU i), .int .i64 (lineG i), .int .i64 (i : Nat)], .pointer (some p)] w' _
  rw [← hr.out]
  clear hr
  generalize lineU i = u at *
  generalize lineG i = gg at *
  have cp2 : (w'.alloc (.cells #[.int .i64 u, .int .i64 gg, .int .i64 (i : Nat)] 37)).cell? p = some (.int .i64 x) := (((Grew.refl w').alloc _).cell (World.block_lt_of_cell? _ _ cp)).trans cp
  go_enter Tryd.func21, Tryd.ntmps21
  go_wp2_with fail
  go_ret
  exact ⟨rfl, (Grew.refl _).alloc _⟩
theorem enters_Next1 : ∀ args w, (callFunc 21 args).run Tryd.prog w = .ok (.enter 21 args) w := enters_of Tryd.func21 (by kernel_rfl) rfl

theorem leap_GPS1 (x : Int) (p : Addr) (c : Nat) (w : World) (hp : w.cell? p = some (.int .i64 x)) (hx : ∀ i, i < 19 → decide (x < lineU i) = decide (c ≤ i)) :
    Above 22 #[.pointer (some p)] c w := fun i w' hi hg => by
  have cp : w'.cell? p = some (.int .i64 x) := (hg.cell (World.block_lt_of_cell? _ _ hp)).trans hp
  have hr := Lib.hid (hx i hi)
  clear hp hx hg
  show Calls Tryd.prog 22 #[.agg #[.int .i64 (lineU i), .int .i64 (lineG i), .int .i64 (i : Nat)], .pointer (some p)] w' _
  rw [← hr.out]
  clear hr
  generalize lineU i = u at *
  generalize lineG i = gg at *
  have cp2 : (w'.alloc (.cells #[.int .i64 u, .int .i64 gg, .int .i64 (i : Nat)] 37)).cell? p = some (.int .i64 x) := (((Grew.refl w').alloc _).cell (World.block_lt_of_cell? _ _ cp)).trans cp
  go_enter Tryd.func22, Tryd.ntmps22
  go_wp2_with fail
  go_ret
  exact ⟨rfl, (Grew.refl _).alloc _⟩
theorem enters_GPS1 : ∀ args w, (callFunc 22 args).run Tryd.prog w = .ok (.enter 22 args) w := enters_of Tryd.func22 (by kernel_rfl) rfl

theorem run_field2 (x y z : Value) (w : World) : Sem.run Tryd.prog (Instr.field 37 (.agg #[x, y, z]) 2) w = .ok z w := by kernel_rfl

set_option maxHeartbeats 1000000 in
theorem leap_Offset (g : Int) (w : World) (hg : -9223372036854775808 ≤ g ∧ g ≤ 9223372036854775807) (ht : Tab w) :
    Calls Tryd.prog 6 #[.int .i64 g] w fun e w' => e = .returned (.tuple #[.int .i64 (if inGps g = true then offOf g else 0), .int .i64 (if inGps g = true then 0 else 9)]) ∧ Grew w w' := by
  by_cases hin : 0 ≤ g ∧ g ≤ 6000000000
  · have i0 : inGps g = true := by simp [inGps]; omega
    rw [if_pos i0, if_pos i0]
    obtain ⟨k, h1, gl⟩ := off_line g hin.1
    rw [h1]
    have hA := leap_Offset1 g ⟨w.heap.size, 0, none⟩ (k + 1) (w.alloc (.cells #[.int .i64 g] 2)) (by simp [go_sem]) gl.above
    have H := Lib.hid (leap_lineAhead 19 #[.pointer (some ⟨w.heap.size, 0, none⟩)] k _ enters_Offset1 (ht.grew ((Grew.refl w).alloc _)) leap_Table hA gl.1)
    have hf := run_field2 (.int .i64 (lineU k)) (.int .i64 (lineG k)) (.int .i64 (k : Nat))
    clear hA gl h1 i0 ht
    generalize lineU k = u at *
    generalize lineG k = gg at *
    go_enter Tryd.func6, Tryd.ntmps6
    go_wp2_with fail
    refine H.out.mono ?_
    rintro e w' ⟨rfl, g1⟩
    clear H
    go_wp2_with fail
    go_ret2
    exact ⟨rfl, ((Grew.refl w).alloc _).trans g1⟩
  · have i0 : inGps g = false := by simp [inGps]; omega
    rw [i0]
    rcases (show g < 0 ∨ (0 ≤ g ∧ 6000000000 < g) by omega) with hc | hc
    all_goals
      go_enter Tryd.func6, Tryd.ntmps6
      go_wp2_with fail
      go_ret2
      exact ⟨rfl, (Grew.refl w).alloc _⟩
end Go.Proofs.YtnfijelcnemgbaaDoor

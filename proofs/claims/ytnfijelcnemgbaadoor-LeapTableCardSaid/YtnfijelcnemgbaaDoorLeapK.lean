/-
  The program's next lines; UTC and GPS seconds.
-/
import Derived.Test.YtnfijelcnemgbaaDoorLeapJ
namespace Go.Proofs.YtnfijelcnemgbaaDoor
open Go.RowKit
set_option linter.unusedVariables false

theorem next_skip (g : Int) : ∀ (d j : Nat), j + d ≤ 19 → (∀ i, j ≤ i → i < j + d → ¬ g < lineG i) → nextTill g (19 - j) = nextTill g (19 - (j + d))
  | 0, _, _, _ => rfl
  | d + 1, j, h, hi => by
    rw [show 19 - j = 19 - (j + 1) + 1 by omega, nextTill, show 18 - (19 - (j + 1)) = j by omega, if_neg (hi j (Nat.le_refl _) (by omega)), next_skip g d (j + 1) (by omega) (fun i a b => hi i (by omega) (by omega)), show j + 1 + d = j + (d + 1) by omega]
/-- The first line above: how many are not. -/
structure NextAt (g : Int) (c : Nat) : Prop where
  le : c ≤ 19
  above : ∀ i, i < 19 → decide (g < lineG i) = decide (c ≤ i)
  none : c = 19 → nextTill g 19 = (0, false)
  some : c < 19 → nextTill g 19 = (lineG c, true)
theorem next_at (g : Int) : ∃ c, NextAt g c := by
  have main : ∀ c, c ≤ 19 → (∀ i, i < 19 → decide (g < lineG i) = decide (c ≤ i)) → NextAt g c := fun c hc ha => by
    have hs := next_skip g c 0 (by omega) (fun i _ hi h => by have := ha i (by omega); rw [decide_eq_true h] at this; have := of_decide_eq_true this.symm; omega)
    simp only [Nat.sub_zero, Nat.zero_add] at hs
    refine ⟨hc, ha, fun e => ?_, fun e => ?_⟩
    · rw [hs, e]; rfl
    · rw [hs, show 19 - c = 18 - c + 1 by omega, nextTill, show 18 - (18 - c) = c by omega, if_pos]
      have := ha c e
      rw [decide_eq_true (Nat.le_refl c)] at this
      exact of_decide_eq_true this
  by_cases h0 : 0 ≤ g
  · obtain ⟨k, _, gl⟩ := off_line g h0
    exact ⟨k + 1, main (k + 1) (by have := gl.1; omega) gl.above⟩
  · refine ⟨0, main 0 (by omega) fun i hi => ?_⟩
    rw [decide_eq_true (Nat.zero_le i), decide_eq_true]
    have := (lineG_bound ⟨i, hi⟩).1
    simp only at this; omega
theorem leap_next (g : Int) (h0 : 0 ≤ g) : leapOfG g = ((nextTill g 19).2 && ((nextTill g 19).1 == g + 1)) := by
  obtain ⟨c, hc⟩ := next_at g
  have lt : ∀ i, i < 19 → (g < lineG i ↔ c ≤ i) := fun i hi => by simpa using hc.above i hi
  rw [Bool.eq_iff_iff, leapOfG_iff]
  constructor
  · rintro ⟨i, i1, i2, i3⟩
    have hi := (lt i (by omega)).1 (by omega)
    have hci : c = i := by
      rcases Nat.lt_or_ge c i with h | h
      · have a := (lines_up c i h i2).1
        have b := (lt c (by omega)).2 (Nat.le_refl _)
        omega
      · omega
    subst hci
    rw [hc.some (by omega)]
    simp; omega
  · intro h
    by_cases e : c = 19
    · rw [hc.none e] at h; simp at h
    · have hc9 : c < 19 := by have := hc.le; omega
      rw [hc.some hc9] at h
      have hl : lineG c = g + 1 := by simpa using h
      refine ⟨c, ?_, by omega, by omega⟩
      rcases Nat.eq_zero_or_pos c with z | z
      · rw [z, lineG_0] at hl; omega
      · exact z

set_option maxHeartbeats 1000000 in
theorem leap_Next (g : Int) (w : World) (hg : -9223372036854775808 ≤ g ∧ g ≤ 9223372036854775807) (ht : Tab w) :
    Calls Tryd.prog 8 #[.int .i64 g] w fun e w' => e = .returned (.tuple #[.int .i64 (nextTill g 19).1, .bool (nextTill g 19).2]) ∧ Grew w w' := by
  obtain ⟨c, hc⟩ := next_at g
  have HC := Lib.hid hc
  have G0 := (Grew.refl w).alloc (.cells #[.int .i64 g] 2)
  have HT := Lib.hid (leap_Table _ (ht.grew G0))
  have cp : (w.alloc (.cells #[.int .i64 g] 2)).cell? ⟨w.heap.size, 0, none⟩ = some (.int .i64 g) := by simp [go_sem]
  clear hc ht
  go_enter Tryd.func8, Tryd.ntmps8
  go_wp2_with fail
  refine HT.out.mono ?_
  rintro e w1 ⟨b, cap, rfl, hb, hL, hF, g1⟩
  clear hF hb HT
  have HL := Lib.hid hL
  clear hL
  have hA := leap_Next1 g ⟨w.heap.size, 0, none⟩ c w1 ((g1.cell (World.block_lt_of_cell? _ _ cp)).trans cp) HC.out.above
  have G := G0.trans g1
  clear g1 G0 cp
  have H := Lib.hid (leap_firstLine 21 #[.pointer (some ⟨w.heap.size, 0, none⟩)] c b cap w1 enters_Next1 hA HL.out HC.out.le)
  clear hA
  go_wp2_with fail
  refine H.out.mono ?_
  rintro e w2 ⟨rfl, g2⟩
  replace G := G.trans g2
  have HL2 := Lib.hid (HL.out.grew g2)
  clear H HL g2
  by_cases e : c = 19
  · have hn := Lib.hid (HC.out.none e)
    clear HC HL2
    subst e
    go_wp2_with fail
    go_ret2
    exact ⟨by rw [hn.out]; rfl, G⟩
  · have hlt : c < 19 := by have := HC.out.le; omega
    have hn := Lib.hid (HC.out.some hlt)
    obtain ⟨d0, d1, d2⟩ := HL2.out.2 c hlt
    have c0 : (0 : Int) ≤ c := by omega
    have c19 : (c : Int) < 19 := by omega
    clear HC HL2 d0 d2 e
    have q : ((c : Int) == 19) = false := by simp; omega
    obtain ⟨u, HU⟩ : ∃ u, Hid (lineG c = u) := ⟨_, Lib.hid rfl⟩
    rw [HU.out] at d1
    go_wp2_with fail
    go_ret2
    exact ⟨by rw [hn.out, HU.out]; rfl, G⟩

set_option maxHeartbeats 1000000 in
theorem leap_UTC (g : Int) (w : World) (hg : -9223372036854775808 ≤ g ∧ g ≤ 9223372036854775807) (ht : Tab w) :
    Calls Tryd.prog 7 #[.int .i64 g] w fun e w' => e = .returned (.tuple #[.int .i64 (if inGps g = true then utcOf g else 0), .bool (inGps g && leapOfG g), .int .i64 (if inGps g = true then 0 else 9)]) ∧ Grew w w' := by
  have H1 := fun w ht => Lib.hid (leap_Offset g w hg ht)
  have HT := Lib.hid ht
  clear ht
  by_cases hin : 0 ≤ g ∧ g ≤ 6000000000
  · have i0 : inGps g = true := by simp [inGps]; omega
    have H2 := fun w ht => Lib.hid (leap_Next g w hg ht)
    have hb := offTill_le g 19 (by omega)
    rw [show offTill g 19 = offOf g from rfl] at hb
    have HL := Lib.hid (leap_next g hin.1)
    have HU : Hid (utcOf g = g - offOf g + 2524953600) := rfl
    simp only [i0, if_true, Bool.true_and] at H1 ⊢
    rw [HL.out, HU.out]
    clear HL HU i0
    generalize (nextTill g 19).1 = n at *
    generalize offOf g = o at *
    generalize (nextTill g 19).2 = ok at *
    cases ok
    all_goals
      go_enter Tryd.func7, Tryd.ntmps7
      go_wp2_with fail
      refine (H1 _ HT.out).out.mono ?_
      rintro e w1 ⟨rfl, g1⟩
      clear H1
      go_wp2_with fail
      refine (H2 _ (HT.out.grew g1)).out.mono ?_
      rintro e w2 ⟨rfl, g2⟩
      clear H2
      go_wp2_with fail
      go_ret3
      exact ⟨rfl, g1.trans g2⟩
  · have i0 : inGps g = false := by simp [inGps]; omega
    simp only [i0, if_false, Bool.false_eq_true, Bool.false_and] at H1 ⊢
    go_enter Tryd.func7, Tryd.ntmps7
    go_wp2_with fail
    refine (H1 _ HT.out).out.mono ?_
    rintro e w1 ⟨rfl, g1⟩
    clear H1
    go_wp2_with fail
    go_ret3
    exact ⟨rfl, g1⟩
end Go.Proofs.YtnfijelcnemgbaaDoor

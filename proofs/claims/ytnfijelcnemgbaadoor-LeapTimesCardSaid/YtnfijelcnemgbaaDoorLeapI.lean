/-
  The program's table of leap seconds: its lines.
-/
import Derived.Test.YtnfijelcnemgbaaDoorLeapF
import Derived.Test.YtnfijelcnemgbaaDoorLeapG
namespace Go.Proofs.YtnfijelcnemgbaaDoor
open Go.RowKit
set_option linter.unusedVariables false

def dateY (i : Nat) : Int := datesList.getD (i * 3) 0
def dateM (i : Nat) : Nat := (datesList.getD (i * 3 + 1) 0).toNat
def dateD (i : Nat) : Int := datesList.getD (i * 3 + 2) 0
theorem date_facts : ∀ i : Fin 19, (1900 ≤ dateY i ∧ dateY i ≤ 2199) ∧ (1 ≤ dateM i ∧ dateM i ≤ 12) ∧ (1 ≤ dateD i ∧ dateD i ≤ lenOf (dateY i) (dateM i)) ∧ (base (dateY i) + cum (dateY i) (dateM i - 1) + dateD i - 1) * 86400 + (0 * 3600 + 0 * 60 + 0) = lineU i ∧ 2524953600 ≤ lineU i ∧ lineU i ≤ 3800000000 := by decide +kernel
theorem date_at0 (w : World) : Sem.run Tryd.prog (Instr.index 48 (.agg datesCells) (.int .i64 (0 : Nat))) w = .ok (.agg #[.int .i64 (dateY 0), .int .i64 (dateM 0 : Nat), .int .i64 (dateD 0)]) w := by kernel_rfl
theorem date_at1 (w : World) : Sem.run Tryd.prog (Instr.index 48 (.agg datesCells) (.int .i64 (1 : Nat))) w = .ok (.agg #[.int .i64 (dateY 1), .int .i64 (dateM 1 : Nat), .int .i64 (dateD 1)]) w := by kernel_rfl
theorem date_at2 (w : World) : Sem.run Tryd.prog (Instr.index 48 (.agg datesCells) (.int .i64 (2 : Nat))) w = .ok (.agg #[.int .i64 (dateY 2), .int .i64 (dateM 2 : Nat), .int .i64 (dateD 2)]) w := by kernel_rfl
theorem date_at3 (w : World) : Sem.run Tryd.prog (Instr.index 48 (.agg datesCells) (.int .i64 (3 : Nat))) w = .ok (.agg #[.int .i64 (dateY 3), .int .i64 (dateM 3 : Nat), .int .i64 (dateD 3)]) w := by kernel_rfl
theorem date_at4 (w : World) : Sem.run Tryd.prog (Instr.index 48 (.agg datesCells) (.int .i64 (4 : Nat))) w = .ok (.agg #[.int .i64 (dateY 4), .int .i64 (dateM 4 : Nat), .int .i64 (dateD 4)]) w := by kernel_rfl
theorem date_at5 (w : World) : Sem.run Tryd.prog (Instr.index 48 (.agg datesCells) (.int .i64 (5 : Nat))) w = .ok (.agg #[.int .i64 (dateY 5), .int .i64 (dateM 5 : Nat), .int .i64 (dateD 5)]) w := by kernel_rfl
theorem date_at6 (w : World) : Sem.run Tryd.prog (Instr.index 48 (.agg datesCells) (.int .i64 (6 : Nat))) w = .ok (.agg #[.int .i64 (dateY 6), .int .i64 (dateM 6 : Nat), .int .i64 (dateD 6)]) w := by kernel_rfl
theorem date_at7 (w : World) : Sem.run Tryd.prog (Instr.index 48 (.agg datesCells) (.int .i64 (7 : Nat))) w = .ok (.agg #[.int .i64 (dateY 7), .int .i64 (dateM 7 : Nat), .int .i64 (dateD 7)]) w := by kernel_rfl
theorem date_at8 (w : World) : Sem.run Tryd.prog (Instr.index 48 (.agg datesCells) (.int .i64 (8 : Nat))) w = .ok (.agg #[.int .i64 (dateY 8), .int .i64 (dateM 8 : Nat), .int .i64 (dateD 8)]) w := by kernel_rfl
theorem date_at9 (w : World) : Sem.run Tryd.prog (Instr.index 48 (.agg datesCells) (.int .i64 (9 : Nat))) w = .ok (.agg #[.int .i64 (dateY 9), .int .i64 (dateM 9 : Nat), .int .i64 (dateD 9)]) w := by kernel_rfl
theorem date_at10 (w : World) : Sem.run Tryd.prog (Instr.index 48 (.agg datesCells) (.int .i64 (10 : Nat))) w = .ok (.agg #[.int .i64 (dateY 10), .int .i64 (dateM 10 : Nat), .int .i64 (dateD 10)]) w := by kernel_rfl
theorem date_at11 (w : World) : Sem.run Tryd.prog (Instr.index 48 (.agg datesCells) (.int .i64 (11 : Nat))) w = .ok (.agg #[.int .i64 (dateY 11), .int .i64 (dateM 11 : Nat), .int .i64 (dateD 11)]) w := by kernel_rfl
theorem date_at12 (w : World) : Sem.run Tryd.prog (Instr.index 48 (.agg datesCells) (.int .i64 (12 : Nat))) w = .ok (.agg #[.int .i64 (dateY 12), .int .i64 (dateM 12 : Nat), .int .i64 (dateD 12)]) w := by kernel_rfl
theorem date_at13 (w : World) : Sem.run Tryd.prog (Instr.index 48 (.agg datesCells) (.int .i64 (13 : Nat))) w = .ok (.agg #[.int .i64 (dateY 13), .int .i64 (dateM 13 : Nat), .int .i64 (dateD 13)]) w := by kernel_rfl
theorem date_at14 (w : World) : Sem.run Tryd.prog (Instr.index 48 (.agg datesCells) (.int .i64 (14 : Nat))) w = .ok (.agg #[.int .i64 (dateY 14), .int .i64 (dateM 14 : Nat), .int .i64 (dateD 14)]) w := by kernel_rfl
theorem date_at15 (w : World) : Sem.run Tryd.prog (Instr.index 48 (.agg datesCells) (.int .i64 (15 : Nat))) w = .ok (.agg #[.int .i64 (dateY 15), .int .i64 (dateM 15 : Nat), .int .i64 (dateD 15)]) w := by kernel_rfl
theorem date_at16 (w : World) : Sem.run Tryd.prog (Instr.index 48 (.agg datesCells) (.int .i64 (16 : Nat))) w = .ok (.agg #[.int .i64 (dateY 16), .int .i64 (dateM 16 : Nat), .int .i64 (dateD 16)]) w := by kernel_rfl
theorem date_at17 (w : World) : Sem.run Tryd.prog (Instr.index 48 (.agg datesCells) (.int .i64 (17 : Nat))) w = .ok (.agg #[.int .i64 (dateY 17), .int .i64 (dateM 17 : Nat), .int .i64 (dateD 17)]) w := by kernel_rfl
theorem date_at18 (w : World) : Sem.run Tryd.prog (Instr.index 48 (.agg datesCells) (.int .i64 (18 : Nat))) w = .ok (.agg #[.int .i64 (dateY 18), .int .i64 (dateM 18 : Nat), .int .i64 (dateD 18)]) w := by kernel_rfl
theorem date_at (i : Nat) (hi : i < 19) (w : World) : Sem.run Tryd.prog (Instr.index 48 (.agg datesCells) (.int .i64 (i : Nat))) w = .ok (.agg #[.int .i64 (dateY i), .int .i64 (dateM i : Nat), .int .i64 (dateD i)]) w := by
  have h : i = 0 ∨ i = 1 ∨ i = 2 ∨ i = 3 ∨ i = 4 ∨ i = 5 ∨ i = 6 ∨ i = 7 ∨ i = 8 ∨ i = 9 ∨ i = 10 ∨ i = 11 ∨ i = 12 ∨ i = 13 ∨ i = 14 ∨ i = 15 ∨ i = 16 ∨ i = 17 ∨ i = 18 := by omega
  rcases h with rfl | rfl | rfl | rfl | rfl | rfl | rfl | rfl | rfl | rfl | rfl | rfl | rfl | rfl | rfl | rfl | rfl | rfl | rfl
  · exact date_at0 w
  · exact date_at1 w
  · exact date_at2 w
  · exact date_at3 w
  · exact date_at4 w
  · exact date_at5 w
  · exact date_at6 w
  · exact date_at7 w
  · exact date_at8 w
  · exact date_at9 w
  · exact date_at10 w
  · exact date_at11 w
  · exact date_at12 w
  · exact date_at13 w
  · exact date_at14 w
  · exact date_at15 w
  · exact date_at16 w
  · exact date_at17 w
  · exact date_at18 w

theorem leap_fromEpoch (s o : Int) (w : World) (hs : 0 ≤ s ∧ s ≤ 9223372036854775807) (ho : 0 ≤ o ∧ o ≤ 20) :
    Calls Tryd.prog 23 #[.int .i64 s, .int .i64 o] w fun e w' => e = .returned (.int .i64 (s - 2524953600 + o)) ∧ w = w' := by
  go_enter Tryd.func23, Tryd.ntmps23
  go_wp2_with fail
  go_ret
  exact ⟨rfl, rfl⟩

/-- The lines below k are told; all cells may be written. -/
def Part (w : World) (b k : Nat) : Prop := b < w.heap.size ∧ (∀ i, i < k → w.cell? ⟨b, i * 3, none⟩ = some (.int .i64 (lineU i)) ∧ w.cell? ⟨b, i * 3 + 1, none⟩ = some (.int .i64 (lineG i)) ∧ w.cell? ⟨b, i * 3 + 2, none⟩ = some (.int .i64 (i : Nat))) ∧
  ∀ j, j < 57 → (∃ v, w.cell? ⟨b, j, none⟩ = some v) ∧ w.frozen? ⟨b, j, none⟩ = false
theorem Part.grew {w w' : World} {b k : Nat} (h : Part w b k) (g : Grew w w') : Part w' b k :=
  ⟨Nat.lt_of_lt_of_le h.1 g.size, fun i hi => ⟨(g.cell h.1).trans (h.2.1 i hi).1, (g.cell h.1).trans (h.2.1 i hi).2.1, (g.cell h.1).trans (h.2.1 i hi).2.2⟩,
   fun j hj => ⟨(h.2.2 j hj).1.imp fun v hv => (g.cell h.1).trans hv, (g.frozen h.1).trans (h.2.2 j hj).2⟩⟩
theorem Part.set {w : World} {b k : Nat} (h : Part w b k) (hk : k < 19) :
    Part (((w.setCell ⟨b, k * 3, none⟩ (.int .i64 (lineU k))).setCell ⟨b, k * 3 + 1, none⟩ (.int .i64 (lineG k))).setCell ⟨b, k * 3 + 2, none⟩ (.int .i64 (k : Nat))) b (k + 1) := by
  have ne : ∀ {i j : Nat}, i ≠ j → (⟨b, i, none⟩ : Addr) ≠ ⟨b, j, none⟩ := fun hj e => hj (by injection e)
  obtain ⟨⟨v0, x0⟩, f0⟩ := h.2.2 (k * 3) (by omega)
  obtain ⟨⟨v1, x1⟩, f1⟩ := h.2.2 (k * 3 + 1) (by omega)
  obtain ⟨⟨v2, x2⟩, f2⟩ := h.2.2 (k * 3 + 2) (by omega)
  have s0 := World.cell?_setCell_same w ⟨b, k * 3, none⟩ (.int .i64 (lineU k)) x0
  have y1 := (World.cell?_setCell_other w ⟨b, k * 3, none⟩ ⟨b, k * 3 + 1, none⟩ (.int .i64 (lineU k)) (ne (by omega))).trans x1
  have y2 := (World.cell?_setCell_other w ⟨b, k * 3, none⟩ ⟨b, k * 3 + 2, none⟩ (.int .i64 (lineU k)) (ne (by omega))).trans x2
  have yo := fun j (hj : k * 3 ≠ j) => World.cell?_setCell_other w ⟨b, k * 3, none⟩ ⟨b, j, none⟩ (.int .i64 (lineU k)) (ne hj)
  generalize hW1 : w.setCell ⟨b, k * 3, none⟩ (.int .i64 (lineU k)) = W1 at *
  have s1 := World.cell?_setCell_same W1 ⟨b, k * 3 + 1, none⟩ (.int .i64 (lineG k)) y1
  have z2 := (World.cell?_setCell_other W1 ⟨b, k * 3 + 1, none⟩ ⟨b, k * 3 + 2, none⟩ (.int .i64 (lineG k)) (ne (by omega))).trans y2
  have zo := fun j (hj : k * 3 + 1 ≠ j) => World.cell?_setCell_other W1 ⟨b, k * 3 + 1, none⟩ ⟨b, j, none⟩ (.int .i64 (lineG k)) (ne hj)
  generalize hW2 : W1.setCell ⟨b, k * 3 + 1, none⟩ (.int .i64 (lineG k)) = W2 at *
  have s2 := World.cell?_setCell_same W2 ⟨b, k * 3 + 2, none⟩ (.int .i64 (k : Nat)) z2
  have uo := fun j (hj : k * 3 + 2 ≠ j) => World.cell?_setCell_other W2 ⟨b, k * 3 + 2, none⟩ ⟨b, j, none⟩ (.int .i64 (k : Nat)) (ne hj)
  have hs : (W2.setCell ⟨b, k * 3 + 2, none⟩ (.int .i64 (k : Nat))).heap.size = w.heap.size := by rw [World.size_setCell, ← hW2, World.size_setCell, ← hW1, World.size_setCell]
  have hfr : ∀ p, (W2.setCell ⟨b, k * 3 + 2, none⟩ (.int .i64 (k : Nat))).frozen? p = w.frozen? p := fun p => by rw [← hW2, ← hW1]; simp [go_sem]
  generalize hW3 : W2.setCell ⟨b, k * 3 + 2, none⟩ (.int .i64 (k : Nat)) = W3 at *
  refine ⟨by rw [hs]; exact h.1, fun i hi => ?_, fun j hj => ⟨?_, by rw [hfr]; exact (h.2.2 j hj).2⟩⟩
  · by_cases hik : i < k
    · obtain ⟨a0, a1, a2⟩ := h.2.1 i hik
      refine ⟨?_, ?_, ?_⟩
      · rw [uo _ (by omega), zo _ (by omega), yo _ (by omega), a0]
      · rw [uo _ (by omega), zo _ (by omega), yo _ (by omega), a1]
      · rw [uo _ (by omega), zo _ (by omega), yo _ (by omega), a2]
    · obtain rfl : i = k := by omega
      exact ⟨by rw [uo _ (by omega), zo _ (by omega), s0], by rw [uo _ (by omega), s1], s2⟩
  · by_cases h2 : k * 3 + 2 = j
    · subst h2; exact ⟨_, s2⟩
    · rw [uo _ h2]
      by_cases h1 : k * 3 + 1 = j
      · subst h1; exact ⟨_, s1⟩
      · rw [zo _ h1]
        by_cases h0 : k * 3 = j
        · subst h0; exact ⟨_, s0⟩
        · rw [yo _ h0]; exact (h.2.2 j hj).1
theorem Part.lines {w : World} {b : Nat} (h : Part w b 19) : Lines w b := ⟨h.1, fun i hi => h.2.1 i hi⟩
theorem Part.left {w : World} {b : Nat} (h : Part w b 19) : Left w b 0 := fun i _ hi => ⟨h.2.1 i hi, (h.2.2 (i * 3 + 2) (by omega)).2⟩

theorem part_own {w : World} {b : Nat} {E : TypeId} {xs : List Value} (h : w.ownsRow 0 E 3 (.slice (some ⟨b, 0, none⟩) 19 19) 19 xs) : Part w b 0 := by
  have hl : xs.length = 57 := h.1
  refine ⟨(World.ownsRow.lt h b rfl).2, fun i hi => absurd hi (by omega), fun j hj => ⟨⟨xs[j]'(by omega), ?_⟩, World.ownsRow.frozenAt h j⟩⟩
  rw [World.ownsRow.cellAt h j hj]; exact List.getElem?_eq_getElem _

set_option maxRecDepth 1000000 in
set_option maxHeartbeats 2000000 in
theorem leap_Table (w : World) (ht : Tab w) : Calls Tryd.prog 17 #[] w (TableFresh w) := by
  have HT := Lib.hid ht
  clear ht
  obtain ⟨ei, hei, hz0, hz1, hz2⟩ := info_parts (show (Tryd.prog.info? 37).map (fun i => (i.zero, i.size, i.bytes)) = some (some (.agg #[.int .i64 0, .int .i64 0, .int .i64 0]), 3, 24) by kernel_rfl)
  go_enter Tryd.func17, Tryd.ntmps17
  go_wp2_with fail
  refine (leap_begins w).mono ?_
  rintro e w1 ⟨rfl, g1⟩
  go_wp2_with (first | (refine wpList_store_row rfl 48 _ _ rfl _ datesCells rfl rfl _ _ (heap_alloc_new _ _) (by kernel_rfl) rfl (by kernel_rfl) ?_; rw [World.setRow_alloc_new]) | (refine wpList_load_row rfl 48 _ rfl _ rfl _ _ _ _ (HD.out) Tryd.underlying48 rfl (by kernel_rfl) ?_) | (refine wpList_make_full _ rfl _ _ 34 rfl 0 37 ei (.agg #[.int .i64 0, .int .i64 0, .int .i64 0]) 3 Tryd.underlying34 hei hz0 hz1 .i64 .i64 19 19 19 rfl rfl rfl rfl (by rw [hz2]; omega) (by unfold maxLen; omega) (Nat.zero_le _) ?_; intro w2 hown hgrow; have HD := Lib.hid ((hgrow.block w1.heap.size (by simp) (fun e => by cases e)).trans (heap_alloc_new w1 (.cells datesCells 48)))))
  have HP := Lib.hid (part_own hown)
  have hne : (w1.alloc (.cells datesCells 48)).heap.size = w1.heap.size + 1 := by simp
  have G : Grew w w2 := (g1.alloc _).trans (Below.grown (Below.refl _ _) hgrow (Nat.le_refl _) (fun b hb => by cases hb))
  have hX : w.heap.size ≤ w1.heap.size + 1 := by have := g1.size; omega
  rw [hne] at HP
  generalize w1.heap.size + 1 = X at *
  clear hown hgrow hne HD g1
  go_loopw [11] (fun i wr => ∃ k : Nat, k ≤ 19 ∧ i = .int .i64 (k : Nat) ∧ Hid (Part wr X k) ∧ Grew w wr) (fun i _ => 19 - (intOf i).toNat)
  case atStart => exact ⟨0, by omega, rfl, HP, G⟩
  case round =>
    clear HP G
    obtain ⟨k, hk, rfl, HP, hg⟩ := hrel
    by_cases hlt : k < 19
    · have hx := date_at k hlt
      obtain ⟨hy, hm, hd, hu, hu0, hu1⟩ := date_facts ⟨k, hlt⟩
      simp only at hy hm hd hu hu0 hu1
      have H1 : ∀ w, Tab w → Hid (Calls Tryd.prog 26 #[moment (dateY k) (dateM k) (dateD k) 0 0 0] w fun e w' => e = .returned (.tuple #[.int .i64 (lineU k), .int .i64 0]) ∧ Grew w w') := fun w ht => by
        rw [← hu]; exact Lib.hid (civ_Second (dateY k) (dateM k) (dateD k) 0 0 0 w hy hm hd (by omega) (by omega) (by omega) ht)
      have HG : Hid (lineG k = lineU k - 2524953600 + k) := rfl
      clear hy hm hd hu
      obtain ⟨u, HU⟩ : ∃ u, Hid (lineU k = u) := ⟨_, Lib.hid rfl⟩
      rw [HU.out] at hu0 hu1 HG
      simp only [HU.out] at H1
      have HS : ∀ W, Part W X k → Hid (Part (((W.setCell ⟨X, k * 3, none⟩ (.int .i64 u)).setCell ⟨X, k * 3 + 1, none⟩ (.int .i64 (u - 2524953600 + k))).setCell ⟨X, k * 3 + 2, none⟩ (.int .i64 (k : Nat))) X (k + 1)) := fun W h => by
        have := Part.set h hlt
        rw [HG.out, HU.out] at this
        exact Lib.hid this
      clear HG HU
      generalize dateY k = y at *
      generalize ((dateM k : Nat) : Int) = m at *
      generalize dateD k = d at *
      have H2 := fun w => Lib.hid (leap_fromEpoch u k w (by omega) (by omega))
      have k0 : (0 : Int) ≤ k := by omega
      have k19 : (k : Int) < 19 := by omega
      go_wp2_with fail
      refine (H1 _ (HT.out.grew (hg.alloc _))).out.mono ?_
      rintro e w3 ⟨rfl, g3⟩
      have HP3 := Lib.hid (HP.out.grew (((Grew.refl wr).alloc _).trans g3))
      replace hg := (hg.alloc _).trans g3
      clear g3 HP
      obtain ⟨⟨v0, x0⟩, f0⟩ := HP3.out.2.2 (k * 3) (by omega)
      obtain ⟨⟨v1, x1⟩, f1⟩ := HP3.out.2.2 (k * 3 + 1) (by omega)
      obtain ⟨⟨v2, x2⟩, f2⟩ := HP3.out.2.2 (k * 3 + 2) (by omega)
      go_wp2_with fail
      refine (H2 _).out.mono ?_
      rintro e w4 ⟨rfl, rfl⟩
      go_wp2_with fail
      go_roundw
      case rel => exact ⟨k + 1, by omega, by simp, HS _ HP3.out, ((hg.setCell hX _).setCell hX _).setCell hX _⟩
      case measure => simp [intOf]; omega
    · obtain rfl : k = 19 := by omega
      go_wp2_with fail
      go_ret
      exact ⟨X, 19, rfl, hX, HP.out.lines, HP.out.left, hg⟩
end Go.Proofs.YtnfijelcnemgbaaDoor

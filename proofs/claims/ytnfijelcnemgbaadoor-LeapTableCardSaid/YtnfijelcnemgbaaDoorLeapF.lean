/-
  The walk of the law on the table, out of the program's contracts.
-/
import Derived.Test.YtnfijelcnemgbaaDoorLeapE
import Derived.LoopTactic
namespace Go.Proofs.YtnfijelcnemgbaaDoor
open Go.RowKit
set_option linter.unusedVariables false

def Lines (w : World) (b : Nat) : Prop := b < w.heap.size ∧ ∀ i, i < 19 → w.cell? ⟨b, i * 3, none⟩ = some (.int .i64 (lineU i)) ∧ w.cell? ⟨b, i * 3 + 1, none⟩ = some (.int .i64 (lineG i)) ∧ w.cell? ⟨b, i * 3 + 2, none⟩ = some (.int .i64 (i : Nat))
theorem Lines.grew {w w' : World} {b : Nat} (h : Lines w b) (g : Grew w w') : Lines w' b :=
  ⟨Nat.lt_of_lt_of_le h.1 g.size, fun i hi => ⟨(g.cell h.1).trans (h.2 i hi).1, (g.cell h.1).trans (h.2 i hi).2.1, (g.cell h.1).trans (h.2 i hi).2.2⟩⟩
theorem Lines.set {w : World} {b b' o : Nat} (h : Lines w b) (hne : b' ≠ b) (x : Value) : Lines (w.setCell ⟨b', o, none⟩ x) b := by
  have e : ∀ {j : Nat}, (⟨b', o, none⟩ : Addr) ≠ ⟨b, j, none⟩ := fun e => hne (by injection e)
  refine ⟨by rw [World.size_setCell]; exact h.1, fun i hi => ?_⟩
  rw [World.cell?_setCell_other _ _ _ _ e, World.cell?_setCell_other _ _ _ _ e, World.cell?_setCell_other _ _ _ _ e]
  exact h.2 i hi
/-- The lines from k on are as they were told, and may be written over. -/
def Left (w : World) (b k : Nat) : Prop := ∀ i, k ≤ i → i < 19 → (w.cell? ⟨b, i * 3, none⟩ = some (.int .i64 (lineU i)) ∧ w.cell? ⟨b, i * 3 + 1, none⟩ = some (.int .i64 (lineG i)) ∧ w.cell? ⟨b, i * 3 + 2, none⟩ = some (.int .i64 (i : Nat))) ∧ w.frozen? ⟨b, i * 3 + 2, none⟩ = false
theorem Left.set {w : World} {b k : Nat} (h : Left w b k) (x : Value) : Left (w.setCell ⟨b, k * 3 + 2, none⟩ x) b (k + 1) := fun i h1 h2 => by
  have e : ∀ {j : Nat}, j ≠ k * 3 + 2 → (⟨b, k * 3 + 2, none⟩ : Addr) ≠ ⟨b, j, none⟩ := fun hj e => hj (by injection e with _ e; exact e.symm)
  obtain ⟨⟨a, c, d⟩, f⟩ := h i (by omega) h2
  rw [World.cell?_setCell_other _ _ _ _ (e (by omega)), World.cell?_setCell_other _ _ _ _ (e (by omega)), World.cell?_setCell_other _ _ _ _ (e (by omega))]
  exact ⟨⟨a, c, d⟩, by simpa [go_sem] using f⟩
theorem Left.drewN {w : World} {b k n : Nat} (h : Left w b k) : Left (w.drewN n) b k := h
def TableFresh (w : World) (e : Ending) (w' : World) : Prop := ∃ b c, e = .returned (.slice (some ⟨b, 0, none⟩) 19 c) ∧ w.heap.size ≤ b ∧ Lines w' b ∧ Left w' b 0 ∧ Grew w w'

set_option maxRecDepth 100000 in
set_option maxHeartbeats 2000000 in
theorem walk_LeapTable {T : World → Prop} (P : LeapCalls T) (hTab : ∀ w, T w → Calls Tryd.prog 17 #[] w (TableFresh w)) (w : World) (ht : T w) :
    Calls Tryd.prog 4 #[] w fun e w' => e = .returned (.bool true) ∧ Grew w w' := by
  have HK := fun w ht => Lib.hid (leap_known P w ht)
  have K := Lib.hid P.keep
  have HT := fun w ht => Lib.hid (hTab w ht)
  clear hTab
  go_enter Tryd.func4, Tryd.ntmps4
  go_wp2_with fail
  refine (ref04_Table _).mono ?_
  rintro e w1 ⟨v, rfl, hW, g1⟩
  obtain ⟨bw, cw, rfl, hW⟩ := hW
  have HW := Lib.hid (show Lines w1 bw from hW)
  clear hW
  go_wp2_with fail
  go_loopw [5] (fun i wr => ∃ j : Nat, j ≤ 2 ∧ i = .int .i64 (j : Nat) ∧ Hid (Lines wr bw) ∧ Grew w wr) (fun i _ => 2 - (intOf i).toNat)
  case atStart => exact ⟨0, by omega, rfl, HW, g1⟩
  case round =>
    clear HW g1
    obtain ⟨j, hj, rfl, HW, hg⟩ := hrel
    by_cases hlt : j < 2
    · go_wp2_with fail
      refine (HT _ (K.out _ _ ht hg)).out.mono ?_
      rintro e w2 ⟨b, c, rfl, hb, hL, hF, g2⟩
      have hne : b ≠ bw := by have := HW.out.1; omega
      have hgb : w.heap.size ≤ b := Nat.le_trans hg.size hb
      replace HW := Lib.hid (HW.out.grew g2)
      replace hg := hg.trans g2
      replace hF := Lib.hid hF
      clear g2 hL hb
      go_wp2_with fail
      go_loopw [15] (fun i wr => ∃ k : Nat, k ≤ 19 ∧ i = .int .i64 (k : Nat) ∧ Hid (Lines wr bw) ∧ Hid (Left wr b k) ∧ Grew w wr) (fun i _ => 19 - (intOf i).toNat)
      case atStart => exact ⟨0, by omega, rfl, HW, hF, hg⟩
      case round =>
        clear HW hF hg
        obtain ⟨k, hk, rfl, HW, hF, hg⟩ := hrel
        by_cases hk2 : k < 19
        · obtain ⟨⟨a0, a1, a2⟩, f2⟩ := hF.out k (Nat.le_refl _) hk2
          obtain ⟨b0, b1, b2⟩ := HW.out.2 k hk2
          generalize lineU k = u at a0 b0
          generalize lineG k = gg at a1 b1
          have h0 : (0 : Int) ≤ k := by omega
          have h19 : (k : Int) < 19 := by omega
          go_wp2_with fail
          go_quiet (fail)
          go_wp2_with fail
          go_roundw
          case rel => exact ⟨k + 1, by omega, by simp, Lib.hid (Lines.set (HW.out.grew ((Grew.refl _).drewN _)) hne _), Lib.hid (Left.set (Left.drewN hF.out) _), (hg.drewN _).setCell hgb _⟩
          case measure => simp [intOf]; omega
        · obtain rfl : k = 19 := by omega
          go_wp2_with fail
          go_roundw
          case rel => exact ⟨j + 1, by omega, by simp, HW, hg⟩
          case measure => simp [intOf]; omega
    · obtain rfl : j = 2 := by omega
      go_wp2_with fail
      refine (HK _ (K.out _ _ ht hg)).out.mono ?_
      rintro e w2 ⟨rfl, g2⟩
      go_wp2_with fail
      go_ret
      exact ⟨rfl, hg.trans g2⟩
end Go.Proofs.YtnfijelcnemgbaaDoor

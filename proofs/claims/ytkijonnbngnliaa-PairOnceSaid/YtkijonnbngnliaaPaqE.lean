/-
  The document's pairing: a copy.
-/
import Derived.Test.YtkijonnbngnliaaPaqD
namespace Go.Proofs.Ytkijonnbngnliaa
open Go.RowKit
set_option linter.unusedVariables false

theorem copyT_end {w w1 : World} {win : Int} {L : Value} {T : List Tg} {U : TypeId} (h : w1.ownsRow w.heap.size 59 10 L T.length (flatT T)) (G : Grew w w1) :
    ∃ r' L', Ending.returned (.pointer (some ⟨w1.heap.size, 0, none⟩)) = .returned (.pointer (some ⟨r', 0, none⟩)) ∧ RefP (w1.alloc (.cells #[.int .i64 win, L] U)) r' win L' T ∧ w.heap.size ≤ r' ∧ (∀ b, L'.ownBlock = some b → w.heap.size ≤ b) ∧ Grew w (w1.alloc (.cells #[.int .i64 win, L] U)) := by
  refine ⟨w1.heap.size, L, rfl, ⟨At.new w1 [.int .i64 win, L] U, ownT_base (ownT_grew h ((Grew.refl w1).alloc _)) (Nat.zero_le _), fun b e => ?_⟩, G.size, fun b e => (World.ownsRow.lt h b e).1, G.alloc _⟩
  have := (World.ownsRow.lt h b e).2
  omega
set_option maxRecDepth 100000 in
set_option maxHeartbeats 4000000 in
theorem ref17_Copy (w : World) (r : Nat) (win : Int) (L : Value) (T : List Tg) (h : RefP w r win L T) (hl : T.length ≤ 100000) :
    Calls Try.prog 10 #[.pointer (some ⟨r, 0, none⟩)] w fun e w' => ∃ r' L', e = .returned (.pointer (some ⟨r', 0, none⟩)) ∧ RefP w' r' win L' T ∧ w.heap.size ≤ r' ∧ (∀ b, L'.ownBlock = some b → w.heap.size ≤ b) ∧ Grew w w' := by
  obtain ⟨A, cp, hL, hcp⟩ := ownT_form h.row
  subst hL
  have lt := h.at_.lt
  have d0 := h.at_.cell 0 _ rfl
  have d1 := h.at_.cell 1 _ rfl
  have HROW := Lib.hid h.row
  have HAT := Lib.hid h.at_
  have OA : (w.alloc (.cells #[] 59)).drew.ownsRow w.heap.size 59 10 (.slice (some ⟨w.heap.size, 0, none⟩) 0 0) 0 [] := own_lit0 (heap_alloc_new _ _) (Nat.le_refl _)
  have GA : Grew w (w.alloc (.cells #[] 59)).drew := ((Grew.refl w).alloc _).drew
  have RA := ownT_grew HROW.out GA
  have SA := GA.size
  clear h
  go_enter Try.func10, Try.ntmps10
  go_upto_region 1 with fail
  go_region_law (refine step_joinT _ rfl (.tmp 7) (.tmp 11) 29 rfl w.heap.size 0 59 59 _ 10 64 Try.underlying29 infoThing rfl (by decide) (.slice (some ⟨w.heap.size, 0, none⟩) 0 0) 0 [] rfl (by with_reducible exact OA) (.slice A T.length cp) T.length (flatT T) rfl (by with_reducible exact RA) (flatT_one1 T) (by omega) (by decide) (by with_reducible exact SA) ?_; intro v1 w1 ho1 hg1 hn1; have G1 := Grew.pushT GA OA (Nat.le_refl _) hg1; rw [List.nil_append, Nat.zero_add] at ho1; obtain ⟨A1, c1, hv1, _⟩ := ownT_form ho1; subst hv1; have e0 := (HAT.out.grew G1).cell 0 _ rfl; have e1 := (HAT.out.grew G1).cell 1 _ rfl; have mt := (HAT.out.grew G1).lt; have hend := Lib.hid (And.intro ho1 G1); clear ho1 hg1 hn1 G1)
  all_goals go_wp2_with fail
  all_goals go_ret
  all_goals exact copyT_end hend.out.1 hend.out.2
end Go.Proofs.Ytkijonnbngnliaa

/-
  The document's pairing: the edges that are kept.
-/
import Derived.Test.YtkijonnbngnliaaPaqA
namespace Go.Proofs.Ytkijonnbngnliaa
open Go.RowKit
set_option linter.unusedVariables false

theorem keptI_last (T : List Tg) : ∀ n, 0 ≤ lastE (keptI T n)
  | 0 => by simp [keptI, lastE]
  | n + 1 => by
    have := keptI_last T n
    unfold keptI
    split
    · unfold addE
      split
      · exact this
      · rw [lastE_push]; omega
    · exact this
theorem RefE.newE (w : World) (T : TypeId) : RefE (w.alloc (.cells #[.slice none 0 0] T)) w.heap.size (.slice none 0 0) [] :=
  ⟨by simp, by simp [go_sem], by simp [go_sem], RowZ.nil _ _, fun b e => by cases e⟩
-- [KEPT
set_option maxRecDepth 100000 in
set_option maxHeartbeats 2000000 in
theorem ref17_kept (w : World) (r : Nat) (win : Int) (L : Value) (T : List Tg) (h : RefP w r win L T) (hl : T.length ≤ 100000) (hb : ∀ i, i < T.length → 0 ≤ (tg T i).at_ ∧ (tg T i).at_ ≤ 9223372036854775807) :
    Calls Try.prog 24 #[.pointer (some ⟨r, 0, none⟩)] w fun e w' => ∃ g L', e = .returned (.pointer (some ⟨g, 0, none⟩)) ∧ w.heap.size ≤ g ∧ RefE w' g L' (keptI T T.length) ∧ Grew w w' := by
  have HH := Lib.hid h
  obtain ⟨A, cp, hL, hcp⟩ := ownT_form h.row
  subst hL
  have hN := RefE.newE w 73
  have gN := (Grew.refl w).alloc (.cells #[.slice none 0 0] 73)
  have HKN := Lib.hid (fun k => And.intro (keptI_len T k) (keptI_last T k))
  clear h
  go_enter Try.func24, Try.ntmps24
  go_wp2_with fail
  obtain ⟨g, HGN⟩ : ∃ g, Hid (w.heap.size = g) := ⟨_, Lib.hid rfl⟩
  rw [HGN.out] at hN ⊢
  generalize hV : w.alloc _ = V at hN gN ⊢
  clear hV
  go_loopw [4] (fun i wr => ∃ k : Nat, k ≤ T.length ∧ i = .int .i64 (k : Nat) ∧ Hid (∃ L', RefE wr g L' (keptI T k)) ∧ Hid (Grew w wr)) (fun i _ => T.length - (intOf i).toNat)
  case atStart => exact ⟨0, Nat.zero_le _, rfl, Lib.hid ⟨_, hN⟩, Lib.hid gN⟩
  case round =>
    clear hN gN
    obtain ⟨k, hk, rfl, HE, HG⟩ := hrel
    have hr := HH.out.grew HG.out
    have lt := hr.at_.lt
    have c1 := hr.at_.cell 1 _ rfl
    by_cases hlt : k < T.length
    · obtain ⟨b, c', e, hbb, hlt2, _⟩ := ownT_head HH.out.row (by omega)
      simp only [Value.slice.injEq] at e
      obtain ⟨rfl, -, rfl⟩ := e
      have ce := hr.cell k 1 (by omega) (by decide) _ rfl
      have ca := hr.cell k 0 (by omega) (by decide) _ rfl
      rw [Nat.add_zero] at ca
      have hki : (k : Int) < T.length := by omega
      have hbk := hb k hlt
      have e1 : IntKind.i64.wrap ((k : Int) + 1) = ((k + 1 : Nat) : Int) := by rw [IntWalk.i64_in _ (by omega)]; omega
      have hs := Lib.hid (show keptI T (k + 1) = if (tg T k).edge then addE (keptI T k) (tg T k).at_ else keptI T k from rfl)
      obtain ⟨L', hE⟩ := HE.out
      obtain ⟨q1, q2⟩ := HKN.out k
      cases he : (tg T k).edge with
      | true =>
        rw [he] at ce hs
        have HA := Lib.hid (ref16_Add wr g L' (keptI T k) (tg T k).at_ hE q1 q2 ⟨by omega, hbk.2⟩)
        generalize (tg T k).at_ = a at *
        clear hE q1 q2 hr he hb hbk HE
        go_wp2_with (go_at_call 30; refine HA.out.mono ?_; rintro y w2 ⟨L2, rfl, h2, _, f2⟩)
        have HE2 : Hid (∃ L', RefE w2 g L' (keptI T (k + 1))) := Lib.hid ⟨L2, by rw [hs.out]; exact h2⟩
        have HG2 := Lib.hid (f2.grew HG.out (fun k e => by rw [e]; exact Nat.le_of_eq HGN.out))
        clear h2 f2
        go_round
        case rel => exact ⟨k + 1, by omega, by first | rfl | go_num, HE2, HG2⟩
        case measure => simp [intOf]; omega
      | false =>
        rw [he] at ce hs
        have HE2 : Hid (∃ L', RefE wr g L' (keptI T (k + 1))) := Lib.hid ⟨L', by rw [hs.out]; exact hE⟩
        clear hE q1 q2 hr he hb hbk HE
        go_wp2_with fail
        go_round
        case rel => exact ⟨k + 1, by omega, by first | rfl | go_num, HE2, HG⟩
        case measure => simp [intOf]; omega
    · obtain rfl : k = T.length := by omega
      clear hb
      go_wp2_with fail
      go_ret
      obtain ⟨L', hE⟩ := HE.out
      exact ⟨g, L', rfl, Nat.le_of_eq HGN.out, hE, HG.out⟩
-- KEPT]
end Go.Proofs.Ytkijonnbngnliaa

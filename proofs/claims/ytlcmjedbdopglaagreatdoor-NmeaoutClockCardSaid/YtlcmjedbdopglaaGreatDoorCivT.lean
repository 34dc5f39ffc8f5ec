/-
  The document's moment of a second.
-/
import Derived.Test.YtlcmjedbdopglaaGreatDoorCivS
namespace Go.Proofs.YtlcmjedbdopglaaGreatDoor
open Go.RowKit
set_option linter.unusedVariables false

theorem six_two (w : World) (a b c d e f a' b' c' d' e' f' : Value) (E : TypeId) : ∃ W, (w.alloc (.cells #[a, b, c, d, e, f] E)).alloc (.cells #[a', b', c', d', e', f'] E) = W ∧ Grew w W ∧ Six W w.heap.size a b c d e f ∧ Wet W w.heap.size ∧ Six W (w.heap.size + 1) a' b' c' d' e' f' ∧ Wet W (w.heap.size + 1) := by
  refine ⟨_, rfl, ((Grew.refl _).alloc _).alloc _, ⟨by simp; omega, ?_, ?_, ?_, ?_, ?_, ?_⟩, ⟨?_, ?_, ?_, ?_, ?_, ?_⟩, ⟨by simp, ?_, ?_, ?_, ?_, ?_, ?_⟩, ?_, ?_, ?_, ?_, ?_, ?_⟩ <;> simp [go_sem]

set_option maxHeartbeats 1000000 in
theorem ref03_Of (sec : Int) (w : World) (hs : 0 ≤ sec ∧ sec < 20000000000) :
    Calls Tryz.prog 5 #[.int .i64 sec] w fun e w' => ((∃ (y : Int) (m : Nat), InMonth (sec / 86400) y m ∧
      e = .returned (.tuple #[moment y m (sec / 86400 - (base y + cum y (m - 1)) + 1) (sec / 3600 % 24) (sec / 60 % 60) (sec % 60), .bool true])) ∨ (109573 ≤ sec / 86400 ∧ e = .returned (.tuple #[moment 0 0 0 0 0 0, .bool false]))) ∧ Grew w w' := by
  have t1 : sec.tmod 60 = sec % 60 := Int.tmod_eq_emod_of_nonneg hs.1
  have t2 : sec.tdiv 60 = sec / 60 := Int.tdiv_eq_ediv_of_nonneg hs.1
  have t3 : (sec / 60).tmod 60 = sec / 60 % 60 := Int.tmod_eq_emod_of_nonneg (by omega)
  have t4 : sec.tdiv 3600 = sec / 3600 := Int.tdiv_eq_ediv_of_nonneg hs.1
  have t5 : (sec / 3600).tmod 24 = sec / 3600 % 24 := Int.tmod_eq_emod_of_nonneg (by omega)
  have t6 : sec.tdiv 86400 = sec / 86400 := Int.tdiv_eq_ediv_of_nonneg hs.1
  obtain ⟨S, HS⟩ : ∃ S, Hid (sec % 60 = S) := ⟨_, Lib.hid rfl⟩
  obtain ⟨I, HI⟩ : ∃ S, Hid (sec / 60 % 60 = S) := ⟨_, Lib.hid rfl⟩
  obtain ⟨H, HH⟩ : ∃ S, Hid (sec / 3600 % 24 = S) := ⟨_, Lib.hid rfl⟩
  obtain ⟨N, HN⟩ : ∃ S, Hid (sec / 86400 = S) := ⟨_, Lib.hid rfl⟩
  have hN : 0 ≤ N ∧ N ≤ 240000 := by have := HN.out; omega
  rw [HS.out, HI.out, HH.out, HN.out]
  go_enter Tryz.func5, Tryz.ntmps5
  go_wp2_with fail
  obtain ⟨W, hW, g0, x, f, x', f'⟩ := six_two w (.int .i64 0) (.int .i64 0) (.int .i64 0) (.int .i64 0) (.int .i64 0) (.int .i64 0) (.int .i64 0) (.int .i64 0) (.int .i64 0) (.int .i64 (sec / 3600 % 24)) (.int .i64 (sec / 60 % 60)) (.int .i64 (sec % 60)) 27
  rw [hW]
  clear hW t1 t2 t3 t4 t5 t6
  rw [HS.out, HI.out, HH.out, HN.out]
  rw [HS.out, HI.out, HH.out] at x'
  go_loopw [5, 6] (fun d i wr => ∃ z B : Int, i = .int .i64 z ∧ d = .int .i64 (N - B) ∧ 1900 ≤ z ∧ z ≤ 2200 ∧ Hid (base z = B) ∧ 0 ≤ B ∧ B ≤ N ∧ B ≤ 110000 ∧ Grew W wr) (fun _ i _ => (2200 - intOf i).toNat)
  case atStart => exact ⟨1900, 0, rfl, by simp, by omega, by omega, Lib.hid base_1900, by omega, by omega, by omega, Grew.refl _⟩
  case round =>
    obtain ⟨z, B, rfl, rfl, hz0, hz1, HB, hB0, hB1, hB2, hg⟩ := hrel
    by_cases hz : z ≤ 2199
    · go_wp2_with fail
      go_loopw [5, 7] (fun d i wr => ∃ (j : Nat) (c : Int), j ≤ 12 ∧ i = .int .i64 ((j : Int) + 1) ∧ d = .int .i64 (N - (B + c)) ∧ Hid (cum z j = c) ∧ B + c ≤ N ∧ Grew W wr) (fun _ i _ => 13 - (intOf i).toNat)
      case atStart => exact ⟨0, 0, by omega, rfl, by simp, Lib.hid rfl, by omega, hg⟩
      case round =>
        clear hg
        obtain ⟨j, c, hj, rfl, rfl, hc, hcN, hg⟩ := hrel
        have hcb : 0 ≤ c ∧ c ≤ 31 * j := by have := cum_le z j; rw [hc.out] at this; exact this
        by_cases hj2 : j < 12
        · have hlb := len_le z (j + 1)
          have hl := fun w => Lib.hid (ref03_Length z (j + 1) w (by omega) (by omega))
          obtain ⟨l, HL⟩ : ∃ l, Hid (lenOf z (j + 1) = l) := ⟨_, Lib.hid rfl⟩
          rw [HL.out] at hlb hl
          have hcs : Hid (cum z (j + 1) = c + l) := by show _ = _; rw [cum_step, hc.out, HL.out]
          go_wp2_with fail
          refine (hl _).out.mono ?_
          rintro e w3 ⟨rfl, g3⟩
          by_cases hlt : N - (B + c) < l
          · have G := hg.trans g3
            have hin : InMonth N z (j + 1) := ⟨⟨hz0, hz⟩, by omega, by simp only [Nat.add_sub_cancel]; rw [HB.out, hc.out]; omega, by rw [HB.out, hcs.out]; omega⟩
            have HIN := Lib.hid hin
            obtain ⟨f0, f1, f2, f3, f4, f5⟩ := f.grew x.1 G
            obtain ⟨_, c0, c1, c2, c3, c4, c5⟩ := x.grew G
            obtain ⟨f0', f1', f2', f3', f4', f5'⟩ := f'.grew x'.1 G
            obtain ⟨_, c0', c1', c2', c3', c4', c5'⟩ := x'.grew G
            go_wp2_with fail
            refine bodyPost_ret (by simp [results, Tryz.results5, go_sem, c0, c1, c2, c3, c4, c5]; try rfl) rfl ?_
            refine ⟨.inl ⟨z, j + 1, HIN.out, ?_⟩, by repeat (first | (with_reducible exact g0.trans G) | (with_reducible refine Grew.setCell ?_ (show w.heap.size ≤ _ by simp) _))⟩
            rw [show j + 1 - 1 = j by omega, HB.out, hc.out]
            rfl
          · have hle : l ≤ N - (B + c) := by omega
            clear hlt
            go_wp2_with fail
            refine (hl _).out.mono ?_
            rintro e w4 ⟨rfl, g4⟩
            go_wp2_with fail
            go_roundw
            case rel => exact ⟨j + 1, c + l, by omega, by simp, by congr 1; omega, hcs, by omega, hg.trans (g3.trans g4)⟩
            case measure => simp [intOf]; omega
        · have e12 : j = 12 := by omega
          have HNx : Hid (base (z + 1) = B + c) := by
            show _ = _; rw [base_next z ⟨by omega, by omega⟩, HB.out, ← hc.out, e12]
          have hN1 := base_le (z + 1) (by omega)
          have hN2 := base_mono (y := z + 1) (z := 2200) (by omega)
          rw [base_2200, HNx.out] at hN2
          clear hN1
          go_wp2_with fail
          go_roundw
          case rel => exact ⟨z + 1, B + c, rfl, rfl, by omega, by omega, HNx, by omega, by omega, by omega, hg⟩
          case measure => simp [intOf]; omega
    · obtain rfl : z = 2200 := by omega
      have hB3 : B = 109573 := by have := HB.out; rw [base_2200] at this; omega
      obtain ⟨f0, f1, f2, f3, f4, f5⟩ := f.grew x.1 hg
      obtain ⟨_, c0, c1, c2, c3, c4, c5⟩ := x.grew hg
      go_wp2_with fail
      refine bodyPost_ret (by simp [results, Tryz.results5, go_sem, c0, c1, c2, c3, c4, c5]; try rfl) rfl ?_
      exact ⟨.inr ⟨by omega, rfl⟩, six_put _ (g0.trans hg) (Nat.le_refl _) _ _ _ _ _ _⟩
end Go.Proofs.YtlcmjedbdopglaaGreatDoor

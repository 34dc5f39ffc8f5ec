/-
  The program's fields: numbers, hex digits.
-/
import Derived.Test.YtbgepjhnnlippaaDoorFlpD
namespace Go.Proofs.YtbgepjhnnlippaaDoor
open Go.RowKit
set_option linter.unusedVariables false

theorem fld_num_dec (s : ByteArray) (w : World) (hs : s.size ≤ 1000) (hp : (nat s).all isDig = true) :
    Calls Tryd.prog 22 #[.string s, .string ⟨#[48, 49, 50, 51, 52, 53, 54, 55, 56, 57]⟩] w fun e w' => e = .returned (told (numOf (nat s) 0 s.size)) ∧ w = w' := by
  have := fld_number s ⟨#[48, 49, 50, 51, 52, 53, 54, 55, 56, 57]⟩ isDig (fun b => b - 48) w hs hp among_dec (by decide) (fun b hb => by
    unfold isDig at hb
    simp at hb
    show b - 48 < 10
    omega)
  rw [show (⟨#[48, 49, 50, 51, 52, 53, 54, 55, 56, 57]⟩ : ByteArray).size = 10 from rfl, numV_dec] at this
  exact this
theorem fld_num_hex (s : ByteArray) (w : World) (hs : s.size ≤ 1000) (hp : (nat s).all isHex = true) :
    Calls Tryd.prog 22 #[.string s, .string ⟨#[48, 49, 50, 51, 52, 53, 54, 55, 56, 57, 65, 66, 67, 68, 69, 70]⟩] w fun e w' => e = .returned (told (hexTo (nat s) s.size)) ∧ w = w' := by
  have := fld_number s ⟨#[48, 49, 50, 51, 52, 53, 54, 55, 56, 57, 65, 66, 67, 68, 69, 70]⟩ isHex hexv w hs hp among_hex (by decide) (fun b hb => by
    unfold isHex at hb
    simp at hb
    show hexv b < 16
    unfold hexv
    split <;> omega)
  rw [show (⟨#[48, 49, 50, 51, 52, 53, 54, 55, 56, 57, 65, 66, 67, 68, 69, 70]⟩ : ByteArray).size = 16 from rfl, numV_hex] at this
  exact this
theorem fld_hexs (s : ByteArray) (a : Addr) (w : World) (hs : s.size ≤ 1000) (ha : w.cell? a = some (.string ⟨#[48, 49, 50, 51, 52, 53, 54, 55, 56, 57, 65, 66, 67, 68, 69, 70]⟩)) :
    Calls Tryd.prog 36 #[.string s, .pointer (some a)] w fun e w' => e = .returned (.bool ((nat s).all isHex)) ∧ Grew w w' :=
  fld_all s _ isHex hexv a w hs ha among_hex
theorem digs_whole (S : List Nat) (h : 0 < S.length) : digs S 0 S.length = S.all isDig := by
  unfold digs
  rw [decide_eq_true h, List.drop_zero, List.take_of_length_le (by omega), Bool.true_and]

set_option maxHeartbeats 1000000 in
theorem fld_Int (s : ByteArray) (least most : Int) (w : World) (hs : s.size ≤ 1000) (h1 : -9223372036854775808 ≤ least ∧ least ≤ 9223372036854775807) (h2 : -9223372036854775808 ≤ most ∧ most ≤ 9223372036854775807) :
    Calls Tryd.prog 11 #[.string s, .int .i64 least, .int .i64 most] w fun e w' => e = .returned (.tuple #[.int .i64 (intAns (nat s) least most).1, .int .i64 ((intAns (nat s) least most).2 : Nat)]) ∧ Grew w w' := by
  have hl := nat_length s
  have HR := fun w => Lib.hid (fld_read s w hs)
  have G := Lib.hid (Grew.refl w)
  by_cases hr : readE (nat s) = 0
  · have hz := readE_zero hr
    have hw := digs_whole (nat s) (by omega)
    have hI : Hid (intAns (nat s) least most = if digs (nat s) 0 s.size = false then (0, 5) else if (numOf (nat s) 0 s.size : Int) < least ∨ most < (numOf (nat s) 0 s.size : Int) then (0, 9) else ((numOf (nat s) 0 s.size : Int), 0)) := by show _ = _; unfold intAns; rw [if_neg (by omega), hl]
    rw [hl] at hw
    rw [hw] at hI
    rw [hr] at HR
    have HO := fun w => Lib.hid (fld_allOf ⟨#[48, 49, 50, 51, 52, 53, 54, 55, 56, 57]⟩ w)
    have HA := fun a w h => Lib.hid (fld_digs s a w hs h)
    have HN := fun w h => Lib.hid (fld_num_dec s w hs h)
    cases hd : (nat s).all isDig
    · have HI : Hid (intAns (nat s) least most = (0, 5)) := by show _ = _; rw [hI.out, if_pos hd]
      rw [hd] at HA
      clear hI hw hr hl HN hd
      go_enter Tryd.func11, Tryd.ntmps11
      go_wp2_with (first | (go_at_call 18; refine (HR _).out.mono ?_; rintro e w1 ⟨rfl, rfl⟩) | (go_at_call 24; refine (HO _).out.mono ?_; rintro e w1 ⟨q, rfl, hq, g1⟩; replace G := Lib.hid (G.out.trans g1); have HQ := Lib.hid hq; clear hq g1) | (go_at_call 36; (with_reducible refine (HA q _ HQ.out).out.mono ?_); rintro e w1 ⟨rfl, g1⟩; replace G := Lib.hid (G.out.trans g1); clear g1))
      go_ret2
      exact ⟨by rw [HI.out]; rfl, G.out⟩
    · have HI : Hid (intAns (nat s) least most = if (numOf (nat s) 0 s.size : Int) < least ∨ most < (numOf (nat s) 0 s.size : Int) then (0, 9) else ((numOf (nat s) 0 s.size : Int), 0)) := by show _ = _; rw [hI.out, hd, if_neg (by decide)]
      rw [hd] at HA
      have HN2 := fun w => Lib.hid (HN w hd).out
      unfold told at HN2
      generalize numOf (nat s) 0 s.size = n at *
      clear hI hw hr hl HN hd
      by_cases hn : n ≤ 9223372036854775807
      · rw [if_pos hn, decide_eq_true hn] at HN2
        by_cases c1 : (n : Int) < least
        · have HI2 : Hid (intAns (nat s) least most = (0, 9)) := by show _ = _; rw [HI.out, if_pos (.inl c1)]
          clear HI
          go_enter Tryd.func11, Tryd.ntmps11
          go_wp2_with (first | (go_at_call 18; refine (HR _).out.mono ?_; rintro e w1 ⟨rfl, rfl⟩) | (go_at_call 24; refine (HO _).out.mono ?_; rintro e w1 ⟨q, rfl, hq, g1⟩; replace G := Lib.hid (G.out.trans g1); have HQ := Lib.hid hq; clear hq g1) | (go_at_call 36; (with_reducible refine (HA q _ HQ.out).out.mono ?_); rintro e w1 ⟨rfl, g1⟩; replace G := Lib.hid (G.out.trans g1); clear g1) | (go_at_call 22; refine (HN2 _).out.mono ?_; rintro e w1 ⟨rfl, rfl⟩))
          go_ret2
          exact ⟨by rw [HI2.out]; rfl, G.out⟩
        · by_cases c2 : most < (n : Int)
          · have HI2 : Hid (intAns (nat s) least most = (0, 9)) := by show _ = _; rw [HI.out, if_pos (.inr c2)]
            clear HI
            go_enter Tryd.func11, Tryd.ntmps11
            go_wp2_with (first | (go_at_call 18; refine (HR _).out.mono ?_; rintro e w1 ⟨rfl, rfl⟩) | (go_at_call 24; refine (HO _).out.mono ?_; rintro e w1 ⟨q, rfl, hq, g1⟩; replace G := Lib.hid (G.out.trans g1); have HQ := Lib.hid hq; clear hq g1) | (go_at_call 36; (with_reducible refine (HA q _ HQ.out).out.mono ?_); rintro e w1 ⟨rfl, g1⟩; replace G := Lib.hid (G.out.trans g1); clear g1) | (go_at_call 22; refine (HN2 _).out.mono ?_; rintro e w1 ⟨rfl, rfl⟩))
            go_ret2
            exact ⟨by rw [HI2.out]; rfl, G.out⟩
          · have HI2 : Hid (intAns (nat s) least most = ((n : Int), 0)) := by show _ = _; rw [HI.out, if_neg (by omega)]
            clear HI
            go_enter Tryd.func11, Tryd.ntmps11
            go_wp2_with (first | (go_at_call 18; refine (HR _).out.mono ?_; rintro e w1 ⟨rfl, rfl⟩) | (go_at_call 24; refine (HO _).out.mono ?_; rintro e w1 ⟨q, rfl, hq, g1⟩; replace G := Lib.hid (G.out.trans g1); have HQ := Lib.hid hq; clear hq g1) | (go_at_call 36; (with_reducible refine (HA q _ HQ.out).out.mono ?_); rintro e w1 ⟨rfl, g1⟩; replace G := Lib.hid (G.out.trans g1); clear g1) | (go_at_call 22; refine (HN2 _).out.mono ?_; rintro e w1 ⟨rfl, rfl⟩))
            go_ret2
            exact ⟨by rw [HI2.out]; rfl, G.out⟩
      · rw [if_neg hn, decide_eq_false hn] at HN2
        have HI2 : Hid (intAns (nat s) least most = (0, 9)) := by show _ = _; rw [HI.out, if_pos (.inr (by omega))]
        clear HI
        go_enter Tryd.func11, Tryd.ntmps11
        go_wp2_with (first | (go_at_call 18; refine (HR _).out.mono ?_; rintro e w1 ⟨rfl, rfl⟩) | (go_at_call 24; refine (HO _).out.mono ?_; rintro e w1 ⟨q, rfl, hq, g1⟩; replace G := Lib.hid (G.out.trans g1); have HQ := Lib.hid hq; clear hq g1) | (go_at_call 36; (with_reducible refine (HA q _ HQ.out).out.mono ?_); rintro e w1 ⟨rfl, g1⟩; replace G := Lib.hid (G.out.trans g1); clear g1) | (go_at_call 22; refine (HN2 _).out.mono ?_; rintro e w1 ⟨rfl, rfl⟩))
        go_ret2
        exact ⟨by rw [HI2.out]; rfl, G.out⟩
  · have hI : Hid (intAns (nat s) least most = (0, readE (nat s))) := by show _ = _; unfold intAns; rw [if_pos hr]
    have hr9 := readE_le (nat s)
    have r0 : ¬ (readE (nat s) : Int) = 0 := by omega
    have r1 : ((readE (nat s) : Int) == 0) = false := by simpa using r0
    clear hl hr
    generalize readE (nat s) = r at *
    go_enter Tryd.func11, Tryd.ntmps11
    go_wp2_with (first | (go_at_call 18; refine (HR _).out.mono ?_; rintro e w1 ⟨rfl, rfl⟩))
    go_ret2
    exact ⟨by rw [hI.out]; rfl, Grew.refl _⟩

set_option maxHeartbeats 1000000 in
theorem fld_Hex (s : ByteArray) (w : World) (hs : s.size ≤ 1000) :
    Calls Tryd.prog 12 #[.string s] w fun e w' => e = .returned (.tuple #[.int .i64 (hexOf (nat s)).1, .int .i64 ((hexOf (nat s)).2 : Nat)]) ∧ Grew w w' := by
  have hl := nat_length s
  have HR := fun w => Lib.hid (fld_read s w hs)
  have G := Lib.hid (Grew.refl w)
  by_cases hr : readE (nat s) = 0
  · have hI : Hid (hexOf (nat s) = if (nat s).all isHex = false then (0, 5) else if 15 < s.size then (0, 3) else (((hexTo (nat s) s.size : Nat) : Int), 0)) := by show _ = _; unfold hexOf; rw [if_neg (by omega), hl]
    rw [hr] at HR
    have HO := fun w => Lib.hid (fld_allOf ⟨#[48, 49, 50, 51, 52, 53, 54, 55, 56, 57, 65, 66, 67, 68, 69, 70]⟩ w)
    have HA := fun a w h => Lib.hid (fld_hexs s a w hs h)
    have HN := fun w h => Lib.hid (fld_num_hex s w hs h)
    have HB := hexTo_lt (nat s) s.size
    cases hd : (nat s).all isHex
    · have HI : Hid (hexOf (nat s) = (0, 5)) := by show _ = _; rw [hI.out, if_pos hd]
      rw [hd] at HA
      clear hI hr hl HN hd HB
      go_enter Tryd.func12, Tryd.ntmps12
      go_wp2_with (first | (go_at_call 18; refine (HR _).out.mono ?_; rintro e w1 ⟨rfl, rfl⟩) | (go_at_call 24; refine (HO _).out.mono ?_; rintro e w1 ⟨q, rfl, hq, g1⟩; replace G := Lib.hid (G.out.trans g1); have HQ := Lib.hid hq; clear hq g1) | (go_at_call 36; (with_reducible refine (HA q _ HQ.out).out.mono ?_); rintro e w1 ⟨rfl, g1⟩; replace G := Lib.hid (G.out.trans g1); clear g1))
      go_ret2
      exact ⟨by rw [HI.out]; rfl, G.out⟩
    · rw [hd] at HA
      by_cases h15 : 15 < s.size
      · have HI : Hid (hexOf (nat s) = (0, 3)) := by show _ = _; rw [hI.out, hd, if_neg (by decide), if_pos h15]
        have c1 : (15 : Int) < s.size := by omega
        clear hI hr hl HN hd HB
        go_enter Tryd.func12, Tryd.ntmps12
        go_wp2_with (first | (go_at_call 18; refine (HR _).out.mono ?_; rintro e w1 ⟨rfl, rfl⟩) | (go_at_call 24; refine (HO _).out.mono ?_; rintro e w1 ⟨q, rfl, hq, g1⟩; replace G := Lib.hid (G.out.trans g1); have HQ := Lib.hid hq; clear hq g1) | (go_at_call 36; (with_reducible refine (HA q _ HQ.out).out.mono ?_); rintro e w1 ⟨rfl, g1⟩; replace G := Lib.hid (G.out.trans g1); clear g1))
        go_ret2
        exact ⟨by rw [HI.out]; rfl, G.out⟩
      · have HI : Hid (hexOf (nat s) = (((hexTo (nat s) s.size : Nat) : Int), 0)) := by show _ = _; rw [hI.out, hd, if_neg (by decide), if_neg h15]
        have HN2 := fun w => Lib.hid (HN w hd).out
        have c1 : ¬ (15 : Int) < s.size := by omega
        have hb := Nat.lt_of_lt_of_le (HB (fun i hi => all_iff.1 hd i (by omega))) (Nat.pow_le_pow_right (by omega) (show s.size ≤ 15 by omega))
        unfold told at HN2
        generalize hexTo (nat s) s.size = n at *
        rw [if_pos (by omega), decide_eq_true (by omega)] at HN2
        clear hI hr hl HN hd HB hb
        go_enter Tryd.func12, Tryd.ntmps12
        go_wp2_with (first | (go_at_call 18; refine (HR _).out.mono ?_; rintro e w1 ⟨rfl, rfl⟩) | (go_at_call 24; refine (HO _).out.mono ?_; rintro e w1 ⟨q, rfl, hq, g1⟩; replace G := Lib.hid (G.out.trans g1); have HQ := Lib.hid hq; clear hq g1) | (go_at_call 36; (with_reducible refine (HA q _ HQ.out).out.mono ?_); rintro e w1 ⟨rfl, g1⟩; replace G := Lib.hid (G.out.trans g1); clear g1) | (go_at_call 22; refine (HN2 _).out.mono ?_; rintro e w1 ⟨rfl, rfl⟩))
        go_ret2
        exact ⟨by rw [HI.out]; rfl, G.out⟩
  · have hI : Hid (hexOf (nat s) = (0, readE (nat s))) := by show _ = _; unfold hexOf; rw [if_pos hr]
    have hr9 := readE_le (nat s)
    have r0 : ¬ (readE (nat s) : Int) = 0 := by omega
    have r1 : ((readE (nat s) : Int) == 0) = false := by simpa using r0
    clear hl hr
    generalize readE (nat s) = r at *
    go_enter Tryd.func12, Tryd.ntmps12
    go_wp2_with (first | (go_at_call 18; refine (HR _).out.mono ?_; rintro e w1 ⟨rfl, rfl⟩))
    go_ret2
    exact ⟨by rw [hI.out]; rfl, Grew.refl _⟩
end Go.Proofs.YtbgepjhnnlippaaDoor

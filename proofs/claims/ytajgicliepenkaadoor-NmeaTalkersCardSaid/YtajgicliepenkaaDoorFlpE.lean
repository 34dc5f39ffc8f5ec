/-
  The program's fields: numbers, hex digits.
-/
import Derived.Test.YtajgicliepenkaaDoorFlpD
namespace Go.Proofs.YtajgicliepenkaaDoor
open Go.RowKit
set_option linter.unusedVariables false

theorem fld_num_dec (s : ByteArray) (w : World) (hs : s.size ≤ 1000) (hp : (nat s).all isDig = true) :
    Calls Tryd.prog 68 #[.string s, .string ⟨#[48, 49, 50, 51, 52, 53, 54, 55, 56, 57]⟩] w fun e w' => e = .returned (told (numOf (nat s) 0 s.size)) ∧ w = w' := by
  have := fld_number s ⟨#[48, 49, 50, 51, 52, 53, 54, 55, 56, 57]⟩ isDig (fun b => b - 48) w hs hp among_dec (by decide) (fun b hb => by
    unfold isDig at hb
    simp at hb
    show b - 48 < 10
    omega)
  rw [show (⟨#[48, 49, 50, 51, 52, 53, 54, 55, 56, 57]⟩ : ByteArray).size = 10 from rfl, numV_dec] at this
  exact this
theorem fld_num_hex (s : ByteArray) (w : World) (hs : s.size ≤ 1000) (hp : (nat s).all isHex = true) :
    Calls Tryd.prog 68 #[.string s, .string ⟨#[48, 49, 50, 51, 52, 53, 54, 55, 56, 57, 65, 66, 67, 68, 69, 70]⟩] w fun e w' => e = .returned (told (hexTo (nat s) s.size)) ∧ w = w' := by
  have := fld_number s ⟨#[48, 49, 50, 51, 52, 53, 54, 55, 56, 57, 65, 66, 67, 68, 69, 70]⟩ isHex hexv w hs hp among_hex (by decide) (fun b hb => by
    unfold isHex at hb
    simp at hb
    show hexv b < 16
    unfold hexv
    split <;> omega)
  rw [show (⟨#[48, 49, 50, 51, 52, 53, 54, 55, 56, 57, 65, 66, 67, 68, 69, 70]⟩ : ByteArray).size = 16 from rfl, numV_hex] at this
  exact this
theorem fld_hexs (s : ByteArray) (a : Addr) (w : World) (hs : s.size ≤ 1000) (ha : w.cell? a = some (.string ⟨#[48, 49, 50, 51, 52, 53, 54, 55, 56, 57, 65, 66, 67, 68, 69, 70]⟩)) :
    Calls Tryd.prog 75 #[.string s, .pointer (some a)] w fun e w' => e = .returned (.bool ((nat s).all isHex)) ∧ Grew w w' :=
  fld_all s _ isHex hexv a w hs ha among_hex
theorem digs_whole (S : List Nat) (h : 0 < S.length) : digs S 0 S.length = S.all isDig := by
  unfold digs
  rw [decide_eq_true h, List.drop_zero, List.take_of_length_le (by omega), Bool.true_and]

set_option maxHeartbeats 1000000 in
theorem fld_Int (s : ByteArray) (least most : Int) (w : World) (hs : s.size ≤ 1000) (h1 : -9223372036854775808 ≤ least ∧ least ≤ 9223372036854775807) (h2 : -9223372036854775808 ≤ most ∧ most ≤ 9223372036854775807) :
    Calls Tryd.prog 55 #[.string s, .int .i64 least, .int .i64 most] w fun e w' => e = .returned (.tuple #[.int .i64 (intAns (nat s) least most).1, .int .i64 ((intAns (nat s) least most).2 : Nat)]) ∧ Grew w w' := by
  have hl := nat_length s
  have HR := fun w => Lib.hid (fld_read s w hs)
  have G := Lib.hid (Grew.refl w)
  by_cases hr : readE (nat s) = 0
  · have hz := readE_zero hr
    have hw := digs_whole (nat s) (by omega)
    have hI : Hid (intAns (nat s) least most = if digs (nat s) 0 s.size = false then (0, 5) else if (numOf (nat s) 0 s.size : Int) < least ∨ most < (numOf (nat s) 0 s.size : Int) then (0, 9) else ((numOf (nat s) 0 s.size : Int), 0)) := by show _ = _; unfold intAns; rw [if_neg (by omega), hl]
    rw [hl] at hw
    rw [hw] at hI
    rw [hr] at HR
    have HO := fun w => Lib.hid (fld_allOf ⟨#[48, 49, 50, 51, 52, 53, 54, 55, 56, 57]⟩ w)
    have HA := fun a w h => Lib.hid (fld_digs s a w hs h)
    have HN := fun w h => Lib.hid (fld_num_dec s w hs h)
    cases hd : (nat s).all isDig
    · have HI : Hid (intAns (nat s) least most = (0, 5)) := by show _ = _; rw [hI.out, if_pos hd]
      rw [hd] at HA
      clear hI hw hr hl HN hd
      go_enter Tryd.func55, Tryd.ntmps55
      go_wp2_with (first | (go_at_call 63; refine (HR _).out.mono ?_; rintro e w1 ⟨rfl, rfl⟩) | (go_at_call 66; refine (HO _).out.mono ?_; rintro e w1 ⟨q, rfl, hq, g1⟩; replace G := Lib.hid (G.out.trans g1); have HQ := Lib.hid hq; clear hq g1) | (go_at_call 75; (with_reducible refine (HA q _ HQ.out).out.mono ?_); rintro e w1 ⟨rfl, g1⟩; replace G := Lib.hid (G.out.trans g1); clear g1))
      go_ret2
      exact ⟨by rw [HI.out]; rfl, G.out⟩
    · have HI : Hid (intAns (nat s) least most = if (numOf (nat s) 0 s.size : Int) < least ∨ most < (numOf (nat s) 0 s.size : Int) then (0, 9) else ((numOf (nat s) 0 s.size : Int), 0)) := by show _ = _; rw [hI.out, hd, if_neg (by decide)]
      rw [hd] at HA
      have HN2 := fun w => Lib.hid (HN w hd).out
      unfold told at HN2
      generalize numOf (nat s) 0 s.size = n at *
      clear hI hw hr hl HN hd
      by_cases hn : n ≤ 9223372036854775807
      · rw [if_pos hn, decide_eq_true hn] at HN2
        by_cases c1 : (n : Int) < least
        · have HI2 : Hid (intAns (nat s) least most = (0, 9)) := by show _ = _; rw [HI.out, if_pos (.inl c1)]
          clear HI
          go_enter Tryd.func55, Tryd.ntmps55
          go_wp2_with (first | (go_at_call 63; refine (HR _).out.mono ?_; rintro e w1 ⟨rfl, rfl⟩) | (go_at_call 66; refine (HO _).out.mono ?_; rintro e w1 ⟨q, rfl, hq, g1⟩; replace G := Lib.hid (G.out.trans g1); have HQ := Lib.hid hq; clear hq g1) | (go_at_call 75; (with_reducible refine (HA q _ HQ.out).out.mono ?_); rintro e w1 ⟨rfl, g1⟩; replace G := Lib.hid (G.out.trans g1); clear g1) | (go_at_call 68; refine (HN2 _).out.mono ?_; rintro e w1 ⟨rfl, rfl⟩))
          go_ret2
          exact ⟨by rw [HI2.out]; rfl, G.out⟩
        · by_cases c2 : most < (n : Int)
          · have HI2 : Hid (intAns (nat s) least most = (0, 9)) := by show _ = _; rw [HI.out, if_pos (.inr c2)]
            clear HI
            go_enter Tryd.func55, Tryd.ntmps55
            go_wp2_with (first | (go_at_call 63; refine (HR _).out.mono ?_; rintro e w1 ⟨rfl, rfl⟩) | (go_at_call 66; refine (HO _).out.mono ?_; rintro e w1 ⟨q, rfl, hq, g1⟩; replace G := Lib.hid (G.out.trans g1); have HQ := Lib.hid hq; clear hq g1) | (go_at_call 75; (with_reducible refine (HA q _ HQ.out).out.mono ?_); rintro e w1 ⟨rfl, g1⟩; replace G := Lib.hid (G.out.trans g1); clear g1) | (go_at_call 68; refine (HN2 _).out.mono ?_; rintro e w1 ⟨rfl, rfl⟩))
            go_ret2
            exact ⟨by rw [HI2.out]; rfl, G.out⟩
          · have HI2 : Hid (intAns (nat s) least most = ((n : Int), 0)) := by show _ = _; rw [HI.out, if_neg (by omega)]
            clear HI
            go_enter Tryd.func55, Tryd.ntmps55
            go_wp2_with (first | (go_at_call 63; refine (HR _).out.mono ?_; rintro e w1 ⟨rfl, rfl⟩) | (go_at_call 66; refine (HO _).out.mono ?_; rintro e w1 ⟨q, rfl, hq, g1⟩; replace G := Lib.hid (G.out.trans g1); have HQ := Lib.hid hq; clear hq g1) | (go_at_call 75; (with_reducible refine (HA q _ HQ.out).out.mono ?_); rintro e w1 ⟨rfl, g1⟩; replace G := Lib.hid (G.out.trans g1); clear g1) | (go_at_call 68; refine (HN2 _).out.mono ?_; rintro e w1 ⟨rfl, rfl⟩))
            go_ret2
            exact ⟨by rw [HI2.out]; rfl, G.out⟩
      · rw [if_neg hn, decide_eq_false hn] at HN2
        have HI2 : Hid (intAns (nat s) least most = (0, 9)) := by show _ = _; rw [HI.out, if_pos (.inr (by omega))]
        clear HI
        go_enter Tryd.func55, Tryd.ntmps55
        go_wp2_with (first | (go_at_call 63; refine (HR _).out.mono ?_; rintro e w1 ⟨rfl, rfl⟩) | (go_at_call 66; refine (HO _).out.mono ?_; rintro e w1 ⟨q, rfl, hq, g1⟩; replace G := Lib.hid (G.out.trans g1); have HQ := Lib.hid hq; clear hq g1) | (go_at_call 75; (with_reducible refine (HA q _ HQ.out).out.mono ?_); rintro e w1 ⟨rfl, g1⟩; replace G := Lib.hid (G.out.trans g1); clear g1) | (go_at_call 68; refine (HN2 _).out.mono ?_; rintro e w1 ⟨rfl, rfl⟩))
        go_ret2
        exact ⟨by rw [HI2.out]; rfl, G.out⟩
  · have hI : Hid (intAns (nat s) least most = (0, readE (nat s))) := by show _ = _; unfold intAns; rw [if_pos hr]
    have hr9 := readE_le (nat s)
    have r0 : ¬ (readE (nat s) : Int) = 0 := by omega
    have r1 : ((readE (nat s) : Int) == 0) = false := by simpa using r0
    clear hl hr
    generalize readE (nat s) = r at *
    go_enter Tryd.func55, Tryd.ntmps55
    go_wp2_with (first | (go_at_call 63; refine (HR _).out.mono ?_; rintro e w1 ⟨rfl, rfl⟩))
    go_ret2
    exact ⟨by rw [hI.out]; rfl, Grew.refl _⟩

end Go.Proofs.YtajgicliepenkaaDoor

/-
  The program's fields: numbers with places, the walk.
-/
import Derived.Test.YtajgicliepenkaaDoorFlpJ
namespace Go.Proofs.YtajgicliepenkaaDoor
open Go.RowKit
set_option linter.unusedVariables false

set_option maxRecDepth 100000 in
set_option maxHeartbeats 2000000 in
theorem fld_Fixed (s : ByteArray) (places : Int) (w : World) (hs : s.size ≤ 1000) (hpl : -9223372036854775808 ≤ places ∧ places ≤ 9223372036854775807) :
    Calls Tryd.prog 56 #[.string s, .int .i64 places] w fun e w' => e = .returned (.tuple #[.int .i64 (fixedOf (nat s) places).1, .int .i64 ((fixedOf (nat s) places).2 : Nat)]) ∧ Grew w w' := by
  have hl := nat_length s
  have HR := fun w => Lib.hid (fld_read s w hs)
  by_cases hr : readE (nat s) = 0
  · rw [hr] at HR
    by_cases hP : places < 0 ∨ 9 < places
    · have hI : Hid (fixedOf (nat s) places = (0, 2)) := by show _ = _; unfold fixedOf; rw [if_neg (by omega), if_pos hP]
      have hcase : places < 0 ∨ (¬ places < 0 ∧ 9 < places) := by omega
      clear hl hr hP
      rcases hcase with h | ⟨h, h'⟩
      all_goals
        go_enter Tryd.func56, Tryd.ntmps56
        go_wp2_with (first | (go_at_call 63; refine (HR _).out.mono ?_; rintro e w1 ⟨rfl, rfl⟩))
        go_ret2
        exact ⟨by rw [hI.out]; rfl, Grew.refl _⟩
    · obtain ⟨P, rfl⟩ : ∃ P : Nat, places = P := ⟨places.toNat, by omega⟩
      have hP9 : P ≤ 9 := by omega
      have hz := readE_zero hr
      have hB : Hid (fixedOf (nat s) (P : Nat) = fixedBody (nat s) P (fromOf (nat s))) := fixed_body (nat s) P hr hP9
      have hfle := from_le (nat s)
      obtain ⟨p, hp, hple, hpp, hiff⟩ := fix_bad s (by omega)
      obtain ⟨ecut, epre⟩ := cut_minus s (by omega)
      have HC : ∀ w, Hid _ := fun w => Lib.hid (Tryd.strings_CutPrefix s ⟨#[45]⟩ w)
      rw [show (⟨#[45]⟩ : ByteArray).data.toList = [45] from rfl, ecut, epre] at HC
      have HP := fun w => fld_atPoint (s.extract (fromOf (nat s)) s.size) p w (by rw [size_extract]; omega) hp
      have hN := fun A B K hA hB hK hok => fix_num s P p (by omega) hpp hok A B hA hB K hK
      have hLT := fun h9 hok => fix_lt s P hP9 h9 hok
      have hBB : Hid (fixedBody (nat s) P (fromOf (nat s)) = if digs (nat s) (fromOf (nat s)) (pointOf (nat s)) = false ∨ (pointOf (nat s) < s.size ∧ digs (nat s) (pointOf (nat s) + 1) s.size = false) then (0, 5)
        else if 9 < pointOf (nat s) - fromOf (nat s) then (0, 9)
        else (if fromOf (nat s) = 1 then -(fixN (nat s) (pointOf (nat s)) (numOf (nat s) (fromOf (nat s)) (pointOf (nat s) - fromOf (nat s))) P : Int) else (fixN (nat s) (pointOf (nat s)) (numOf (nat s) (fromOf (nat s)) (pointOf (nat s) - fromOf (nat s))) P : Int), 0)) := by show _ = _; unfold fixedBody; rw [hl]
      have q0 : ¬ (P : Int) < 0 := by omega
      have q1 : ¬ (9 : Int) < P := by omega
      have HRep := fun w => Lib.hid (Tryd.strings_Repeat ⟨#[48]⟩ P w (by omega) (by show 1 * P ≤ _; omega))
      rw [show (⟨#[48]⟩ : ByteArray).data.toList = [48] from rfl] at HRep
      have hZ : (⟨(Lib.repeatL [48] P).toArray⟩ : ByteArray).size = P := by rw [← nat_length, rep_zero, List.length_replicate]
      by_cases hbad : digs (nat s) (fromOf (nat s)) (pointOf (nat s)) = false ∨ (pointOf (nat s) < s.size ∧ digs (nat s) (pointOf (nat s) + 1) s.size = false)
      · have hI : Hid (fixedOf (nat s) (P : Nat) = (0, 5)) := by show _ = _; rw [hB.out, hBB.out, if_pos hbad]
        have e6 : atPt (s.extract (fromOf (nat s)) s.size) p = .tuple #[.string ⟨#[]⟩, .string ⟨#[]⟩, .bool false] := by unfold atPt; rw [if_pos (hiff.2 hbad)]
        rw [e6] at HP
        replace HP := fun w => Lib.hid (HP w)
        generalize decide (fromOf (nat s) = 1) = D at *
        generalize s.extract (fromOf (nat s)) s.size = U at *
        clear hB hBB hl hr hbad e6 hp hple hpp hiff ecut epre hN hLT HRep hZ hfle
        go_enter Tryd.func56, Tryd.ntmps56
        go_wp2_with (first | (go_at_call 63; refine (HR _).out.mono ?_; rintro e w1 ⟨rfl, rfl⟩) | (go_at_call 69; refine (HC _).out.mono ?_; rintro e w1 ⟨rfl, rfl⟩) | (go_at_call 64; refine (HP _).out.mono ?_; rintro e w1 ⟨rfl, g1⟩))
        go_ret2
        exact ⟨by rw [hI.out]; rfl, g1⟩
      · have e6 : atPt (s.extract (fromOf (nat s)) s.size) p = .tuple #[.string ((s.extract (fromOf (nat s)) s.size).extract 0 p), .string ((s.extract (fromOf (nat s)) s.size).extract (p + 1) (s.extract (fromOf (nat s)) s.size).size), .bool true] := by unfold atPt; rw [if_neg (fun h => hbad (hiff.1 h))]
        rw [e6] at HP
        obtain ⟨sA, sAK, dAK, nAK⟩ := hN _ _ _ rfl rfl rfl hbad
        have hI : Hid (fixedOf (nat s) (P : Nat) = if 9 < p then (0, 9) else (if fromOf (nat s) = 1 then -(fixN (nat s) (pointOf (nat s)) (numOf (nat s) (fromOf (nat s)) (pointOf (nat s) - fromOf (nat s))) P : Int) else (fixN (nat s) (pointOf (nat s)) (numOf (nat s) (fromOf (nat s)) (pointOf (nat s) - fromOf (nat s))) P : Int), 0)) := by
          show _ = _
          rw [hB.out, hBB.out, if_neg hbad, show pointOf (nat s) - fromOf (nat s) = p by omega]
        have hlt := fun h9 => hLT h9 hbad
        rw [show pointOf (nat s) - fromOf (nat s) = p by omega] at hlt nAK hI
        have szB : ((s.extract (fromOf (nat s)) s.size).extract (p + 1) (s.extract (fromOf (nat s)) s.size).size).size ≤ 1000 := by rw [size_extract, size_extract]; omega
        clear hB hBB hr hbad e6 hp hiff ecut epre hN hLT
        generalize s.extract (fromOf (nat s)) s.size = U at *
        generalize U.extract 0 p = A at *
        generalize U.extract (p + 1) U.size = B at *
        replace HP := fun w => Lib.hid (HP w)
        generalize (⟨(Lib.repeatL [48] P).toArray⟩ : ByteArray) = Z at *
        have G := Lib.hid (Grew.refl w)
        have hf01 : fromOf (nat s) = 0 ∨ fromOf (nat s) = 1 := by omega
        by_cases h9 : 9 < p
        · have HI : Hid (fixedOf (nat s) (P : Nat) = (0, 9)) := by show _ = _; rw [hI.out, if_pos h9]
          have c1 : (9 : Int) < A.size := by omega
          clear hI hlt nAK dAK sAK HRep hf01
          generalize decide (fromOf (nat s) = 1) = D at *
          go_enter Tryd.func56, Tryd.ntmps56
          go_wp2_with (first | (go_at_call 63; refine (HR _).out.mono ?_; rintro e w1 ⟨rfl, rfl⟩) | (go_at_call 69; refine (HC _).out.mono ?_; rintro e w1 ⟨rfl, rfl⟩) | (go_at_call 64; refine (HP _).out.mono ?_; rintro e w1 ⟨rfl, g1⟩; replace G := Lib.hid (G.out.trans g1); clear g1))
          go_ret2
          exact ⟨by rw [HI.out]; rfl, G.out⟩
        · have c1 : ¬ (9 : Int) < A.size := by omega
          replace hlt := hlt h9
          rw [if_neg h9] at hI
          have HN := fun w => fld_num_dec (A ++ (B ++ Z).extract 0 P) w (by omega) dAK
          rw [nAK] at HN
          generalize fixN (nat s) (pointOf (nat s)) (numOf (nat s) (fromOf (nat s)) p) P = n at *
          unfold told at HN
          rw [if_pos (show n ≤ 9223372036854775807 by omega), decide_eq_true (show n ≤ 9223372036854775807 by omega)] at HN
          have HN2 := fun w => Lib.hid (HN w)
          have sBZ : (B ++ Z).size = B.size + P := by rw [← nat_length, nat_append, List.length_append, nat_length, nat_length, hZ]
          have p0 : (0 : Int) ≤ P := by omega
          have p1 : (P : Int) ≤ ((B ++ Z).size : Nat) := by omega
          have p2 : (P : Int) ≤ (B.size : Int) + (Z.size : Int) := by omega
          have p3 : (B.size : Int) + (Z.size : Int) ≤ 2000 := by omega
          have e1 : IntKind.i64.wrap (-(n : Int)) = -(n : Int) := IntWalk.i64_in _ (by omega)
          clear HN nAK dAK
          rcases hf01 with hf | hf
          · rw [hf] at hI HC
            rw [show decide ((0 : Nat) = 1) = false from rfl] at HC
            have HI : Hid (fixedOf (nat s) (P : Nat) = ((n : Int), 0)) := by show _ = _; rw [hI.out]; rfl
            clear hI hf
            go_enter Tryd.func56, Tryd.ntmps56
            go_wp2_with (first | (go_at_call 63; refine (HR _).out.mono ?_; rintro e w1 ⟨rfl, rfl⟩) | (go_at_call 69; refine (HC _).out.mono ?_; rintro e w1 ⟨rfl, rfl⟩) | (go_at_call 64; refine (HP _).out.mono ?_; rintro e w1 ⟨rfl, g1⟩; replace G := Lib.hid (G.out.trans g1); clear g1) | (go_at_call 6; refine (HRep _).out.mono ?_; rintro e w1 ⟨rfl, g1⟩; replace G := Lib.hid (G.out.trans g1); clear g1) | (go_at_call 68; refine (HN2 _).out.mono ?_; rintro e w1 ⟨rfl, rfl⟩))
            go_ret2
            exact ⟨by rw [HI.out]; rfl, G.out⟩
          · rw [hf] at hI HC
            rw [show decide ((1 : Nat) = 1) = true from rfl] at HC
            have HI : Hid (fixedOf (nat s) (P : Nat) = (-(n : Int), 0)) := by show _ = _; rw [hI.out]; rfl
            clear hI hf
            go_enter Tryd.func56, Tryd.ntmps56
            go_wp2_with (first | (go_at_call 63; refine (HR _).out.mono ?_; rintro e w1 ⟨rfl, rfl⟩) | (go_at_call 69; refine (HC _).out.mono ?_; rintro e w1 ⟨rfl, rfl⟩) | (go_at_call 64; refine (HP _).out.mono ?_; rintro e w1 ⟨rfl, g1⟩; replace G := Lib.hid (G.out.trans g1); clear g1) | (go_at_call 6; refine (HRep _).out.mono ?_; rintro e w1 ⟨rfl, g1⟩; replace G := Lib.hid (G.out.trans g1); clear g1) | (go_at_call 68; refine (HN2 _).out.mono ?_; rintro e w1 ⟨rfl, rfl⟩))
            go_ret2
            exact ⟨by rw [HI.out]; rfl, G.out⟩
  · have hI : Hid (fixedOf (nat s) places = (0, readE (nat s))) := by show _ = _; unfold fixedOf; rw [if_pos hr]
    have hr9 := readE_le (nat s)
    have r0 : ¬ (readE (nat s) : Int) = 0 := by omega
    have r1 : ((readE (nat s) : Int) == 0) = false := by simpa using r0
    clear hl hr
    generalize readE (nat s) = r at *
    go_enter Tryd.func56, Tryd.ntmps56
    go_wp2_with (first | (go_at_call 63; refine (HR _).out.mono ?_; rintro e w1 ⟨rfl, rfl⟩))
    go_ret2
    exact ⟨by rw [hI.out]; rfl, Grew.refl _⟩
end Go.Proofs.YtajgicliepenkaaDoor

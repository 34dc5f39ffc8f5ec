/-
  The document's fields: numbers with places.
-/
import Derived.Test.YtbgepjhnnlippaaFldS
import Derived.Deep.CutBlock
import Derived.Deep.DeepCutAuto
namespace Go.Proofs.Ytbgepjhnnlippaa
open Go.RowKit
set_option linter.unusedVariables false

theorem num_step (S : List Nat) (a m : Nat) (h : a ≤ m) : numOf S a (m + 1 - a) = numOf S a (m - a) * 10 + (wd S m - 48) := by
  rw [show m + 1 - a = (m - a) + 1 by omega, numOf, show a + (m - a) = m by omega]
theorem fixN_lt (S : List Nat) (p base : Nat) (hb : base < 10 ^ 9) (h : ∀ i, p < i → i < S.length → isDig (wd S i) = true) : ∀ k, fixN S p base k < 10 ^ (9 + k) := by
  intro k
  induction k with
  | zero => exact hb
  | succ k ih =>
    rw [fixN, show 9 + (k + 1) = (9 + k) + 1 by omega, Nat.pow_succ]
    split
    · rename_i hlt
      have h2 := h (p + (k + 1)) (by omega) hlt
      unfold isDig at h2
      simp at h2
      omega
    · omega
theorem point_pos (S : List Nat) (h : 0 < S.length) (h2 : wd S 0 ≠ 46) : 1 ≤ pointOf S := by
  cases S with
  | nil => simp at h
  | cons x S => simp [wd] at h2; simp [pointOf, h2]
/-- What a number with places is, once it is read and the places may be. -/
def fixedBody (S : List Nat) (P f : Nat) : Int × Nat :=
  if digs S f (pointOf S) = false ∨ (pointOf S < S.length ∧ digs S (pointOf S + 1) S.length = false) then (0, 5)
  else if 9 < pointOf S - f then (0, 9)
  else (if f = 1 then -(fixN S (pointOf S) (numOf S f (pointOf S - f)) P : Int) else (fixN S (pointOf S) (numOf S f (pointOf S - f)) P : Int), 0)
theorem fixed_body (S : List Nat) (P : Nat) (hr : readE S = 0) (hP : P ≤ 9) : fixedOf S (P : Nat) = fixedBody S P (fromOf S) := by
  unfold fixedOf fixedBody
  rw [if_neg (by omega), if_neg (by omega), Int.toNat_natCast]

set_option maxRecDepth 100000 in
set_option maxHeartbeats 1000000 in
theorem ref09_Fixed0 (s : ByteArray) (P : Nat) (w : World) (hs : s.size ≤ 1000) (hP : P ≤ 9) (hr : readE (nat s) = 0) (h45 : wd (nat s) 0 ≠ 45) :
    Calls Try.prog 9 #[.string s, .int .i64 (P : Nat)] w fun e w' => e = .returned (.tuple #[.int .i64 (fixedBody (nat s) P 0).1, .int .i64 ((fixedBody (nat s) P 0).2 : Nat)]) ∧ w = w' := by
  have hl := nat_length s
  have hz := readE_zero hr
  have HR := Lib.hid (ref09_read s w hs)
  rw [hr] at HR
  have HPT := Lib.hid (ref09_point s w hs)
  have hpl := pointOf_le (nat s)
  have HA := fun j h w => Lib.hid (str_at s j h w)
  have y0 : ∀ w, Sem.run Try.prog (Instr.index 9 (.string s) (.int .i64 0)) w = .ok (.int .u8 (wd (nat s) 0 : Nat)) w := fun w => str_at s 0 (by omega) w
  have HFX := Lib.hid (fixN_lt (nat s))
  have HNL := Lib.hid (numOf_lt (nat s) 0)
  have hB : Hid (fixedBody (nat s) P 0 = if digs (nat s) 0 (pointOf (nat s)) = false ∨ (pointOf (nat s) < s.size ∧ digs (nat s) (pointOf (nat s) + 1) s.size = false) then (0, 5)
    else if 9 < pointOf (nat s) - 0 then (0, 9) else ((fixN (nat s) (pointOf (nat s)) (numOf (nat s) 0 (pointOf (nat s) - 0)) P : Int), 0)) := by show _ = _; unfold fixedBody; rw [hl]; simp
  skip
  obtain ⟨p, hp⟩ : ∃ p, pointOf (nat s) = p := ⟨_, rfl⟩
  rw [hp] at HPT hB
  rw [hp, hl] at hpl
  have HD : Hid (Calls Try.prog 22 #[.string s, .int .i64 0, .int .i64 (p : Nat)] w fun e w' => e = .returned (.bool (digs (nat s) 0 p)) ∧ w = w') := ref09_Digits s 0 p w hs (by omega) hpl
  have HD2 : p < s.size → Hid (Calls Try.prog 22 #[.string s, .int .i64 ((p : Int) + 1), .int .i64 (s.size : Nat)] w fun e w' => e = .returned (.bool (digs (nat s) (p + 1) s.size)) ∧ w = w') := fun h => by
    have := ref09_Digits s (p + 1) s.size w hs (by omega) (Nat.le_refl _)
    rwa [show ((p + 1 : Nat) : Int) = (p : Int) + 1 by omega] at this
  have q0 : ¬ (P : Int) < 0 := by omega
  have q1 : ¬ (9 : Int) < P := by omega
  have z1 : (0 : Int) < s.size := by omega
  have c45 : ¬ ((wd (nat s) 0 : Nat) : Int) = 45 := by omega
  have c45' : (((wd (nat s) 0 : Nat) : Int) == 45) = false := by simpa using c45
  clear hp hr
  by_cases hpf : p < 0
  · exfalso
    omega
  have pf : ¬ (p : Int) < 0 := by omega
  cases hd : digs (nat s) 0 p
  · rw [hd] at HD
    have hI : Hid (fixedBody (nat s) P 0 = (0, 5)) := by show _ = _; rw [hB.out, if_pos (.inl hd)]
    clear hB hd HA HFX HNL HD2 hl
    generalize wd (nat s) 0 = c0 at *
    go_enter Try.func9, Try.ntmps9
    go_wp2_with (first | (go_at_call 21; refine HR.out.mono ?_; rintro e w1 ⟨rfl, rfl⟩) | (go_at_call 26; refine HPT.out.mono ?_; rintro e w1 ⟨rfl, rfl⟩) | (go_at_call 22; refine HD.out.mono ?_; rintro e w1 ⟨rfl, rfl⟩))
    all_goals go_ret2
    all_goals exact ⟨by rw [hI.out]; rfl, rfl⟩
  · rw [hd] at HD
    have hdig := digs_all (S := nat s) (by omega) hd
    have hfp : 0 < p := ((digs_iff (by omega)).1 hd).1
    by_cases hb2 : p < s.size ∧ digs (nat s) (p + 1) s.size = false
    · have hI : Hid (fixedBody (nat s) P 0 = (0, 5)) := by show _ = _; rw [hB.out, if_pos (.inr hb2)]
      have HD3 := HD2 hb2.1
      rw [hb2.2] at HD3
      have p1 : (p : Int) < s.size := by omega
      have e1 : IntKind.i64.wrap ((p : Int) + 1) = (p : Int) + 1 := IntWalk.i64_in _ (by omega)
      clear hB hd HA HFX HNL HD2 hl hb2 hdig
      generalize wd (nat s) 0 = c0 at *
      go_enter Try.func9, Try.ntmps9
      go_wp2_with (first | (go_at_call 21; refine HR.out.mono ?_; rintro e w1 ⟨rfl, rfl⟩) | (go_at_call 26; refine HPT.out.mono ?_; rintro e w1 ⟨rfl, rfl⟩) | (go_at_call 22; first | (with_reducible refine HD.out.mono ?_; rintro e w1 ⟨rfl, rfl⟩) | (with_reducible refine HD3.out.mono ?_; rintro e w1 ⟨rfl, rfl⟩)))
      all_goals go_ret2
      all_goals exact ⟨by rw [hI.out]; rfl, rfl⟩
    · have HD3 : p < s.size → Hid (Calls Try.prog 22 #[.string s, .int .i64 ((p : Int) + 1), .int .i64 (s.size : Nat)] w fun e w' => e = .returned (.bool true) ∧ w = w') := fun h => by
        have hb3 : digs (nat s) (p + 1) s.size = true := by cases hq : digs (nat s) (p + 1) s.size; exact absurd ⟨h, hq⟩ hb2; rfl
        have := HD2 h
        rwa [hb3] at this
      have hfrac : Hid (∀ i, p < i → i < (nat s).length → isDig (wd (nat s) i) = true) := fun i h1 h2 => by
        rw [hl] at h2
        have hb3 : digs (nat s) (p + 1) s.size = true := by cases hq : digs (nat s) (p + 1) s.size; exact absurd ⟨by omega, hq⟩ hb2; rfl
        exact digs_all (S := nat s) (by omega) hb3 i (by omega) h2
      have hB2 : Hid (fixedBody (nat s) P 0 = if 9 < p - 0 then (0, 9) else ((fixN (nat s) p (numOf (nat s) 0 (p - 0)) P : Int), 0)) := by show _ = _; rw [hB.out, if_neg (fun h => by rcases h with h | h; rw [hd] at h; cases h; exact hb2 h)]
      have e1 : IntKind.i64.wrap ((p : Int) + 1) = (p : Int) + 1 := IntWalk.i64_in _ (by omega)
      have e2 : IntKind.i64.wrap ((p : Int) - 0) = (p : Int) - 0 := IntWalk.i64_in _ (by omega)
      have HG := Lib.hid hdig
      have HL := Lib.hid hl
      clear hB hd hb2 hdig HD2 hl
      have HC0 : Hid (wd (nat s) 0 = wd (nat s) 0) := rfl
      go_enter Try.func9, Try.ntmps9
      go_upto_region 10 with (first | (go_at_call 21; refine HR.out.mono ?_; rintro e w1 ⟨rfl, rfl⟩) | (go_at_call 26; refine HPT.out.mono ?_; rintro e w1 ⟨rfl, rfl⟩))
      go_cut [52] (fun q wx => q = .bool false ∧ w = wx)
      case first =>
        by_cases hps : p < s.size
        · have HD4 := HD3 hps
          have p1 : (p : Int) < s.size := by omega
          clear HD3 hB2 HA HFX HNL HG hfrac
          generalize wd (nat s) 0 = c0 at *
          go_wp2_with (go_at_call 22; first | (with_reducible refine HD.out.mono ?_; rintro e w1 ⟨rfl, rfl⟩) | (with_reducible refine HD4.out.mono ?_; rintro e w1 ⟨rfl, rfl⟩))
          all_goals go_meet
          all_goals exact ⟨by first | rfl | (simp; omega), rfl⟩
        · have p1 : ¬ (p : Int) < s.size := by omega
          clear HD3 hB2 HA HFX HNL HG hfrac
          generalize wd (nat s) 0 = c0 at *
          go_wp2_with (go_at_call 22; refine HD.out.mono ?_; rintro e w1 ⟨rfl, rfl⟩)
          all_goals go_meet
          all_goals exact ⟨by first | rfl | (simp; omega), rfl⟩
      case rest =>
        obtain ⟨rfl, rfl⟩ := hcut
        clear HD3 HR HPT HD y0
        by_cases h9 : 9 < p - 0
        · have hI : Hid (fixedBody (nat s) P 0 = (0, 9)) := by show _ = _; rw [hB2.out, if_pos h9]
          have p1 : (9 : Int) < (p : Int) - 0 := by omega
          have p2 : (9 : Int) < p := by omega
          clear hB2 HA HFX HNL HG hfrac
          go_wp2_with fail
          go_ret2
          exact ⟨by rw [hI.out]; rfl, rfl⟩
        · have hI : Hid (fixedBody (nat s) P 0 = ((fixN (nat s) p (numOf (nat s) 0 (p - 0)) P : Int), 0)) := by show _ = _; rw [hB2.out, if_neg h9]
          have p1 : ¬ (9 : Int) < (p : Int) - 0 := by omega
          have p2 : ¬ (9 : Int) < p := by omega
          have hbase : Hid (numOf (nat s) 0 (p - 0) < 10 ^ 9) := Nat.lt_of_lt_of_le (HNL.out (p - 0) (fun i h1 h2 => HG.out i h1 (by omega))) (Nat.pow_le_pow_right (by omega) (by omega))
          have HMO := fun k m h => Lib.hid (numOf_mono (nat s) 0 k m h)
          have hps2 : p ≤ s.size := hpl
          clear hB2 HNL h9
          go_wp2_with fail
          go_loop [9, 10] (fun n i => ∃ m : Nat, 0 ≤ m ∧ m ≤ p ∧ i = .int .i64 (m : Nat) ∧ n = .int .i64 (numOf (nat s) 0 (m - 0) : Nat)) (fun _ i => p - (intOf i).toNat)
          case atStart => exact ⟨0, by omega, by omega, by simp, by simp [numOf]⟩
          case round =>
            obtain ⟨m, hm1, hm2, rfl, rfl⟩ := hrel
            by_cases hlt : m < p
            · have y := fun w => (HA m (by omega) w).out
              have hdj := HG.out m (by omega) hlt
              have hst : Hid (numOf (nat s) 0 (m + 1 - 0) = numOf (nat s) 0 (m - 0) * 10 + (wd (nat s) m - 48)) := num_step _ _ _ hm1
              have hb1 : numOf (nat s) 0 (m - 0) < 10 ^ 9 := Nat.lt_of_le_of_lt (HMO (m - 0) (p - 0) (by omega)).out hbase.out
              unfold isDig at hdj
              simp at hdj
              have m0 : (m : Int) < p := by omega
              have m1 : (m : Int) < s.size := by omega
              have m2 : (0 : Int) ≤ m := by omega
              have d1 : IntKind.u8.wrap (((wd (nat s) m : Nat) : Int) - 48) = ((wd (nat s) m - 48 : Nat) : Int) := by rw [IntWalk.u8_in _ (by omega)]; omega
              have d2 : IntKind.i64.wrap ((wd (nat s) m - 48 : Nat) : Int) = ((wd (nat s) m - 48 : Nat) : Int) := IntWalk.i64_in _ (by omega)
              have hd9 : wd (nat s) m - 48 ≤ 9 := by omega
              generalize wd (nat s) m - 48 = d at *
              generalize numOf (nat s) 0 (m - 0) = n at *
              have d3 : IntKind.i64.wrap ((n : Int) * 10) = (n : Int) * 10 := IntWalk.i64_in _ (by omega)
              have d4 : IntKind.i64.wrap ((n : Int) * 10 + d) = (n : Int) * 10 + d := IntWalk.i64_in _ (by omega)
              clear HA HG HFX hfrac HMO hI hbase
              go_wp2_with fail
              go_round
              case rel => exact ⟨m + 1, by omega, by omega, by simp, by rw [hst.out]; simp⟩
              case measure => simp [intOf]; omega
            · obtain rfl : m = p := by omega
              have m0 : ¬ (m : Int) < m := by omega
              have hb9 := hbase.out
              obtain ⟨B, hBB⟩ : ∃ B, numOf (nat s) 0 (m - 0) = B := ⟨_, rfl⟩
              rw [hBB] at hI hb9
              rw [hBB]
              have HFL := fun k => Lib.hid (HFX.out m B hb9 hfrac.out k)
              have HST := fun k => Lib.hid (show fixN (nat s) m B (k + 1) = fixN (nat s) m B k * 10 + (if m + (k + 1) < (nat s).length then wd (nat s) (m + (k + 1)) - 48 else 0) from rfl)
              clear hbase HMO HFX hBB HG
              go_wp2_with fail
              go_loop [9, 11] (fun n i => ∃ k : Nat, k ≤ P ∧ i = .int .i64 ((k + 1 : Nat) : Int) ∧ n = .int .i64 (fixN (nat s) m B k : Nat)) (fun _ i => P + 1 - (intOf i).toNat)
              case atStart => exact ⟨0, by omega, by simp, by simp [fixN]⟩
              case round =>
                obtain ⟨k, hk, rfl, rfl⟩ := hrel
                by_cases hkP : k < P
                · have c1 : ((k + 1 : Nat) : Int) ≤ P := by omega
                  have hfl := (HFL k).out
                  have hfl2 := (HFL (k + 1)).out
                  have hp1 : 10 ^ (9 + k) ≤ 10 ^ 17 := Nat.pow_le_pow_right (by omega) (by omega)
                  have hst := HST k
                  have c2 : IntKind.i64.wrap ((m : Int) + ((k + 1 : Nat) : Int)) = ((m + (k + 1) : Nat) : Int) := by rw [IntWalk.i64_in _ (by omega)]; omega
                  rw [HL.out] at hst
                  by_cases hin : m + (k + 1) < s.size
                  · have hst := Lib.hid (show fixN (nat s) m B (k + 1) = fixN (nat s) m B k * 10 + (wd (nat s) (m + (k + 1)) - 48) by rw [hst.out, if_pos hin])
                    have hdj := hfrac.out (m + (k + 1)) (by omega) (by rw [HL.out]; exact hin)
                    have y := fun w => (HA (m + (k + 1)) hin w).out
                    obtain ⟨r, hr⟩ : ∃ r, m + (k + 1) = r := ⟨_, rfl⟩
                    rw [hr] at hst hdj y c2 hin
                    have m0 : (r : Int) < s.size := by omega
                    unfold isDig at hdj
                    simp at hdj
                    have d1 : IntKind.u8.wrap (((wd (nat s) r : Nat) : Int) - 48) = ((wd (nat s) r - 48 : Nat) : Int) := by rw [IntWalk.u8_in _ (by omega)]; omega
                    have d2 : IntKind.i64.wrap ((wd (nat s) r - 48 : Nat) : Int) = ((wd (nat s) r - 48 : Nat) : Int) := IntWalk.i64_in _ (by omega)
                    have hd9 : wd (nat s) r - 48 ≤ 9 := by omega
                    generalize wd (nat s) r - 48 = d at *
                    generalize fixN (nat s) m B k = n at *
                    have d3 : IntKind.i64.wrap ((n : Int) * 10) = (n : Int) * 10 := IntWalk.i64_in _ (by omega)
                    have d4 : IntKind.i64.wrap ((n : Int) * 10 + d) = (n : Int) * 10 + d := IntWalk.i64_in _ (by omega)
                    obtain ⟨k1, hk1⟩ : ∃ k1, k + 1 = k1 := ⟨_, rfl⟩
                    rw [hk1] at c1 c2 ⊢
                    clear HA hfrac HFL HST hI hfl hfl2 hp1
                    go_wp2_with fail
                    go_round
                    case rel => exact ⟨k1, by omega, by simp, by rw [← hk1, hst.out]; simp⟩
                    case measure => simp [intOf]; omega
                  · have hst := Lib.hid (show fixN (nat s) m B (k + 1) = fixN (nat s) m B k * 10 by rw [hst.out, if_neg hin, Nat.add_zero])
                    obtain ⟨r, hr⟩ : ∃ r, m + (k + 1) = r := ⟨_, rfl⟩
                    rw [hr] at c2 hin
                    have m0 : ¬ (r : Int) < s.size := by omega
                    generalize fixN (nat s) m B k = n at *
                    have d3 : IntKind.i64.wrap ((n : Int) * 10) = (n : Int) * 10 := IntWalk.i64_in _ (by omega)
                    obtain ⟨k1, hk1⟩ : ∃ k1, k + 1 = k1 := ⟨_, rfl⟩
                    rw [hk1] at c1 c2 ⊢
                    clear HA hfrac HFL HST hI hfl hfl2 hp1
                    go_wp2_with fail
                    go_round
                    case rel => exact ⟨k1, by omega, by simp, by rw [← hk1, hst.out]; simp⟩
                    case measure => simp [intOf]; omega
                · obtain rfl : k = P := by omega
                  have c1 : ¬ ((k + 1 : Nat) : Int) ≤ k := by omega
                  have hfl := (HFL k).out
                  have hp1 : 10 ^ (9 + k) ≤ 10 ^ 18 := Nat.pow_le_pow_right (by omega) (by omega)
                  generalize fixN (nat s) m B k = n at *
                  have d3 : IntKind.i64.wrap (-(n : Int)) = -(n : Int) := IntWalk.i64_in _ (by omega)
                  generalize k + 1 = k1 at *
                  clear HA hfrac HFL HST hfl hp1
                  go_wp2_with fail
                  go_ret2
                  exact ⟨by rw [hI.out]; rfl, rfl⟩

set_option maxRecDepth 100000 in
set_option maxHeartbeats 1000000 in
theorem ref09_Fixed1 (s : ByteArray) (P : Nat) (w : World) (hs : s.size ≤ 1000) (hP : P ≤ 9) (hr : readE (nat s) = 0) (h45 : wd (nat s) 0 = 45) :
    Calls Try.prog 9 #[.string s, .int .i64 (P : Nat)] w fun e w' => e = .returned (.tuple #[.int .i64 (fixedBody (nat s) P 1).1, .int .i64 ((fixedBody (nat s) P 1).2 : Nat)]) ∧ w = w' := by
  have hl := nat_length s
  have hz := readE_zero hr
  have HR := Lib.hid (ref09_read s w hs)
  rw [hr] at HR
  have HPT := Lib.hid (ref09_point s w hs)
  have hpl := pointOf_le (nat s)
  have HA := fun j h w => Lib.hid (str_at s j h w)
  have y0 : ∀ w, Sem.run Try.prog (Instr.index 9 (.string s) (.int .i64 0)) w = .ok (.int .u8 (wd (nat s) 0 : Nat)) w := fun w => str_at s 0 (by omega) w
  have HFX := Lib.hid (fixN_lt (nat s))
  have HNL := Lib.hid (numOf_lt (nat s) 1)
  have hB : Hid (fixedBody (nat s) P 1 = if digs (nat s) 1 (pointOf (nat s)) = false ∨ (pointOf (nat s) < s.size ∧ digs (nat s) (pointOf (nat s) + 1) s.size = false) then (0, 5)
    else if 9 < pointOf (nat s) - 1 then (0, 9) else (-(fixN (nat s) (pointOf (nat s)) (numOf (nat s) 1 (pointOf (nat s) - 1)) P : Int), 0)) := by show _ = _; unfold fixedBody; rw [hl]; simp
  have hpp := point_pos (nat s) (by omega) (by omega)
  obtain ⟨p, hp⟩ : ∃ p, pointOf (nat s) = p := ⟨_, rfl⟩
  rw [hp] at HPT hB hpp
  rw [hp, hl] at hpl
  have HD : Hid (Calls Try.prog 22 #[.string s, .int .i64 1, .int .i64 (p : Nat)] w fun e w' => e = .returned (.bool (digs (nat s) 1 p)) ∧ w = w') := ref09_Digits s 1 p w hs (by omega) hpl
  have HD2 : p < s.size → Hid (Calls Try.prog 22 #[.string s, .int .i64 ((p : Int) + 1), .int .i64 (s.size : Nat)] w fun e w' => e = .returned (.bool (digs (nat s) (p + 1) s.size)) ∧ w = w') := fun h => by
    have := ref09_Digits s (p + 1) s.size w hs (by omega) (Nat.le_refl _)
    rwa [show ((p + 1 : Nat) : Int) = (p : Int) + 1 by omega] at this
  have q0 : ¬ (P : Int) < 0 := by omega
  have q1 : ¬ (9 : Int) < P := by omega
  have z1 : (0 : Int) < s.size := by omega
  have c45 : ((wd (nat s) 0 : Nat) : Int) = 45 := by omega
  clear hp hr
  by_cases hpf : p < 1
  · exfalso
    omega
  have pf : ¬ (p : Int) < 1 := by omega
  cases hd : digs (nat s) 1 p
  · rw [hd] at HD
    have hI : Hid (fixedBody (nat s) P 1 = (0, 5)) := by show _ = _; rw [hB.out, if_pos (.inl hd)]
    clear hB hd HA HFX HNL HD2 hl
    generalize wd (nat s) 0 = c0 at *
    go_enter Try.func9, Try.ntmps9
    go_wp2_with (first | (go_at_call 21; refine HR.out.mono ?_; rintro e w1 ⟨rfl, rfl⟩) | (go_at_call 26; refine HPT.out.mono ?_; rintro e w1 ⟨rfl, rfl⟩) | (go_at_call 22; refine HD.out.mono ?_; rintro e w1 ⟨rfl, rfl⟩))
    all_goals go_ret2
    all_goals exact ⟨by rw [hI.out]; rfl, rfl⟩
  · rw [hd] at HD
    have hdig := digs_all (S := nat s) (by omega) hd
    have hfp : 1 < p := ((digs_iff (by omega)).1 hd).1
    by_cases hb2 : p < s.size ∧ digs (nat s) (p + 1) s.size = false
    · have hI : Hid (fixedBody (nat s) P 1 = (0, 5)) := by show _ = _; rw [hB.out, if_pos (.inr hb2)]
      have HD3 := HD2 hb2.1
      rw [hb2.2] at HD3
      have p1 : (p : Int) < s.size := by omega
      have e1 : IntKind.i64.wrap ((p : Int) + 1) = (p : Int) + 1 := IntWalk.i64_in _ (by omega)
      clear hB hd HA HFX HNL HD2 hl hb2 hdig
      generalize wd (nat s) 0 = c0 at *
      go_enter Try.func9, Try.ntmps9
      go_wp2_with (first | (go_at_call 21; refine HR.out.mono ?_; rintro e w1 ⟨rfl, rfl⟩) | (go_at_call 26; refine HPT.out.mono ?_; rintro e w1 ⟨rfl, rfl⟩) | (go_at_call 22; first | (with_reducible refine HD.out.mono ?_; rintro e w1 ⟨rfl, rfl⟩) | (with_reducible refine HD3.out.mono ?_; rintro e w1 ⟨rfl, rfl⟩)))
      all_goals go_ret2
      all_goals exact ⟨by rw [hI.out]; rfl, rfl⟩
    · have HD3 : p < s.size → Hid (Calls Try.prog 22 #[.string s, .int .i64 ((p : Int) + 1), .int .i64 (s.size : Nat)] w fun e w' => e = .returned (.bool true) ∧ w = w') := fun h => by
        have hb3 : digs (nat s) (p + 1) s.size = true := by cases hq : digs (nat s) (p + 1) s.size; exact absurd ⟨h, hq⟩ hb2; rfl
        have := HD2 h
        rwa [hb3] at this
      have hfrac : Hid (∀ i, p < i → i < (nat s).length → isDig (wd (nat s) i) = true) := fun i h1 h2 => by
        rw [hl] at h2
        have hb3 : digs (nat s) (p + 1) s.size = true := by cases hq : digs (nat s) (p + 1) s.size; exact absurd ⟨by omega, hq⟩ hb2; rfl
        exact digs_all (S := nat s) (by omega) hb3 i (by omega) h2
      have hB2 : Hid (fixedBody (nat s) P 1 = if 9 < p - 1 then (0, 9) else (-(fixN (nat s) p (numOf (nat s) 1 (p - 1)) P : Int), 0)) := by show _ = _; rw [hB.out, if_neg (fun h => by rcases h with h | h; rw [hd] at h; cases h; exact hb2 h)]
      have e1 : IntKind.i64.wrap ((p : Int) + 1) = (p : Int) + 1 := IntWalk.i64_in _ (by omega)
      have e2 : IntKind.i64.wrap ((p : Int) - 1) = (p : Int) - 1 := IntWalk.i64_in _ (by omega)
      have HG := Lib.hid hdig
      have HL := Lib.hid hl
      clear hB hd hb2 hdig HD2 hl
      have HC0 : Hid (wd (nat s) 0 = wd (nat s) 0) := rfl
      go_enter Try.func9, Try.ntmps9
      go_upto_region 10 with (first | (go_at_call 21; refine HR.out.mono ?_; rintro e w1 ⟨rfl, rfl⟩) | (go_at_call 26; refine HPT.out.mono ?_; rintro e w1 ⟨rfl, rfl⟩))
      go_cut [52] (fun q wx => q = .bool false ∧ w = wx)
      case first =>
        by_cases hps : p < s.size
        · have HD4 := HD3 hps
          have p1 : (p : Int) < s.size := by omega
          clear HD3 hB2 HA HFX HNL HG hfrac
          generalize wd (nat s) 0 = c0 at *
          go_wp2_with (go_at_call 22; first | (with_reducible refine HD.out.mono ?_; rintro e w1 ⟨rfl, rfl⟩) | (with_reducible refine HD4.out.mono ?_; rintro e w1 ⟨rfl, rfl⟩))
          all_goals go_meet
          all_goals exact ⟨by first | rfl | (simp; omega), rfl⟩
        · have p1 : ¬ (p : Int) < s.size := by omega
          clear HD3 hB2 HA HFX HNL HG hfrac
          generalize wd (nat s) 0 = c0 at *
          go_wp2_with (go_at_call 22; refine HD.out.mono ?_; rintro e w1 ⟨rfl, rfl⟩)
          all_goals go_meet
          all_goals exact ⟨by first | rfl | (simp; omega), rfl⟩
      case rest =>
        obtain ⟨rfl, rfl⟩ := hcut
        clear HD3 HR HPT HD y0
        by_cases h9 : 9 < p - 1
        · have hI : Hid (fixedBody (nat s) P 1 = (0, 9)) := by show _ = _; rw [hB2.out, if_pos h9]
          have p1 : (9 : Int) < (p : Int) - 1 := by omega
          skip
          clear hB2 HA HFX HNL HG hfrac
          go_wp2_with fail
          go_ret2
          exact ⟨by rw [hI.out]; rfl, rfl⟩
        · have hI : Hid (fixedBody (nat s) P 1 = (-(fixN (nat s) p (numOf (nat s) 1 (p - 1)) P : Int), 0)) := by show _ = _; rw [hB2.out, if_neg h9]
          have p1 : ¬ (9 : Int) < (p : Int) - 1 := by omega
          skip
          have hbase : Hid (numOf (nat s) 1 (p - 1) < 10 ^ 9) := Nat.lt_of_lt_of_le (HNL.out (p - 1) (fun i h1 h2 => HG.out i h1 (by omega))) (Nat.pow_le_pow_right (by omega) (by omega))
          have HMO := fun k m h => Lib.hid (numOf_mono (nat s) 1 k m h)
          have hps2 : p ≤ s.size := hpl
          clear hB2 HNL h9
          go_wp2_with fail
          go_loop [9, 10] (fun n i => ∃ m : Nat, 1 ≤ m ∧ m ≤ p ∧ i = .int .i64 (m : Nat) ∧ n = .int .i64 (numOf (nat s) 1 (m - 1) : Nat)) (fun _ i => p - (intOf i).toNat)
          case atStart => exact ⟨1, by omega, by omega, by simp, by simp [numOf]⟩
          case round =>
            obtain ⟨m, hm1, hm2, rfl, rfl⟩ := hrel
            by_cases hlt : m < p
            · have y := fun w => (HA m (by omega) w).out
              have hdj := HG.out m (by omega) hlt
              have hst : Hid (numOf (nat s) 1 (m + 1 - 1) = numOf (nat s) 1 (m - 1) * 10 + (wd (nat s) m - 48)) := num_step _ _ _ hm1
              have hb1 : numOf (nat s) 1 (m - 1) < 10 ^ 9 := Nat.lt_of_le_of_lt (HMO (m - 1) (p - 1) (by omega)).out hbase.out
              unfold isDig at hdj
              simp at hdj
              have m0 : (m : Int) < p := by omega
              have m1 : (m : Int) < s.size := by omega
              have m2 : (0 : Int) ≤ m := by omega
              have d1 : IntKind.u8.wrap (((wd (nat s) m : Nat) : Int) - 48) = ((wd (nat s) m - 48 : Nat) : Int) := by rw [IntWalk.u8_in _ (by omega)]; omega
              have d2 : IntKind.i64.wrap ((wd (nat s) m - 48 : Nat) : Int) = ((wd (nat s) m - 48 : Nat) : Int) := IntWalk.i64_in _ (by omega)
              have hd9 : wd (nat s) m - 48 ≤ 9 := by omega
              generalize wd (nat s) m - 48 = d at *
              generalize numOf (nat s) 1 (m - 1) = n at *
              have d3 : IntKind.i64.wrap ((n : Int) * 10) = (n : Int) * 10 := IntWalk.i64_in _ (by omega)
              have d4 : IntKind.i64.wrap ((n : Int) * 10 + d) = (n : Int) * 10 + d := IntWalk.i64_in _ (by omega)
              clear HA HG HFX hfrac HMO hI hbase
              go_wp2_with fail
              go_round
              case rel => exact ⟨m + 1, by omega, by omega, by simp, by rw [hst.out]; simp⟩
              case measure => simp [intOf]; omega
            · obtain rfl : m = p := by omega
              have m0 : ¬ (m : Int) < m := by omega
              have hb9 := hbase.out
              obtain ⟨B, hBB⟩ : ∃ B, numOf (nat s) 1 (m - 1) = B := ⟨_, rfl⟩
              rw [hBB] at hI hb9
              rw [hBB]
              have HFL := fun k => Lib.hid (HFX.out m B hb9 hfrac.out k)
              have HST := fun k => Lib.hid (show fixN (nat s) m B (k + 1) = fixN (nat s) m B k * 10 + (if m + (k + 1) < (nat s).length then wd (nat s) (m + (k + 1)) - 48 else 0) from rfl)
              clear hbase HMO HFX hBB HG
              go_wp2_with fail
              go_loop [9, 11] (fun n i => ∃ k : Nat, k ≤ P ∧ i = .int .i64 ((k + 1 : Nat) : Int) ∧ n = .int .i64 (fixN (nat s) m B k : Nat)) (fun _ i => P + 1 - (intOf i).toNat)
              case atStart => exact ⟨0, by omega, by simp, by simp [fixN]⟩
              case round =>
                obtain ⟨k, hk, rfl, rfl⟩ := hrel
                by_cases hkP : k < P
                · have c1 : ((k + 1 : Nat) : Int) ≤ P := by omega
                  have hfl := (HFL k).out
                  have hfl2 := (HFL (k + 1)).out
                  have hp1 : 10 ^ (9 + k) ≤ 10 ^ 17 := Nat.pow_le_pow_right (by omega) (by omega)
                  have hst := HST k
                  have c2 : IntKind.i64.wrap ((m : Int) + ((k + 1 : Nat) : Int)) = ((m + (k + 1) : Nat) : Int) := by rw [IntWalk.i64_in _ (by omega)]; omega
                  rw [HL.out] at hst
                  by_cases hin : m + (k + 1) < s.size
                  · have hst := Lib.hid (show fixN (nat s) m B (k + 1) = fixN (nat s) m B k * 10 + (wd (nat s) (m + (k + 1)) - 48) by rw [hst.out, if_pos hin])
                    have hdj := hfrac.out (m + (k + 1)) (by omega) (by rw [HL.out]; exact hin)
                    have y := fun w => (HA (m + (k + 1)) hin w).out
                    obtain ⟨r, hr⟩ : ∃ r, m + (k + 1) = r := ⟨_, rfl⟩
                    rw [hr] at hst hdj y c2 hin
                    have m0 : (r : Int) < s.size := by omega
                    unfold isDig at hdj
                    simp at hdj
                    have d1 : IntKind.u8.wrap (((wd (nat s) r : Nat) : Int) - 48) = ((wd (nat s) r - 48 : Nat) : Int) := by rw [IntWalk.u8_in _ (by omega)]; omega
                    have d2 : IntKind.i64.wrap ((wd (nat s) r - 48 : Nat) : Int) = ((wd (nat s) r - 48 : Nat) : Int) := IntWalk.i64_in _ (by omega)
                    have hd9 : wd (nat s) r - 48 ≤ 9 := by omega
                    generalize wd (nat s) r - 48 = d at *
                    generalize fixN (nat s) m B k = n at *
                    have d3 : IntKind.i64.wrap ((n : Int) * 10) = (n : Int) * 10 := IntWalk.i64_in _ (by omega)
                    have d4 : IntKind.i64.wrap ((n : Int) * 10 + d) = (n : Int) * 10 + d := IntWalk.i64_in _ (by omega)
                    obtain ⟨k1, hk1⟩ : ∃ k1, k + 1 = k1 := ⟨_, rfl⟩
                    rw [hk1] at c1 c2 ⊢
                    clear HA hfrac HFL HST hI hfl hfl2 hp1
                    go_wp2_with fail
                    go_round
                    case rel => exact ⟨k1, by omega, by simp, by rw [← hk1, hst.out]; simp⟩
                    case measure => simp [intOf]; omega
                  · have hst := Lib.hid (show fixN (nat s) m B (k + 1) = fixN (nat s) m B k * 10 by rw [hst.out, if_neg hin, Nat.add_zero])
                    obtain ⟨r, hr⟩ : ∃ r, m + (k + 1) = r := ⟨_, rfl⟩
                    rw [hr] at c2 hin
                    have m0 : ¬ (r : Int) < s.size := by omega
                    generalize fixN (nat s) m B k = n at *
                    have d3 : IntKind.i64.wrap ((n : Int) * 10) = (n : Int) * 10 := IntWalk.i64_in _ (by omega)
                    obtain ⟨k1, hk1⟩ : ∃ k1, k + 1 = k1 := ⟨_, rfl⟩
                    rw [hk1] at c1 c2 ⊢
                    clear HA hfrac HFL HST hI hfl hfl2 hp1
                    go_wp2_with fail
                    go_round
                    case rel => exact ⟨k1, by omega, by simp, by rw [← hk1, hst.out]; simp⟩
                    case measure => simp [intOf]; omega
                · obtain rfl : k = P := by omega
                  have c1 : ¬ ((k + 1 : Nat) : Int) ≤ k := by omega
                  have hfl := (HFL k).out
                  have hp1 : 10 ^ (9 + k) ≤ 10 ^ 18 := Nat.pow_le_pow_right (by omega) (by omega)
                  generalize fixN (nat s) m B k = n at *
                  have d3 : IntKind.i64.wrap (-(n : Int)) = -(n : Int) := IntWalk.i64_in _ (by omega)
                  generalize k + 1 = k1 at *
                  clear HA hfrac HFL HST hfl hp1
                  go_wp2_with fail
                  go_ret2
                  exact ⟨by rw [hI.out]; rfl, rfl⟩

theorem ref09_Fixed (s : ByteArray) (places : Int) (w : World) (hs : s.size ≤ 1000) (hp : -9223372036854775808 ≤ places ∧ places ≤ 9223372036854775807) :
    Calls Try.prog 9 #[.string s, .int .i64 places] w fun e w' => e = .returned (.tuple #[.int .i64 (fixedOf (nat s) places).1, .int .i64 ((fixedOf (nat s) places).2 : Nat)]) ∧ w = w' := by
  have HR := Lib.hid (ref09_read s w hs)
  by_cases hr : readE (nat s) = 0
  · by_cases hc : 0 ≤ places ∧ places ≤ 9
    · obtain ⟨P, rfl⟩ : ∃ P : Nat, places = P := ⟨places.toNat, by omega⟩
      rw [fixed_body (nat s) P hr (by omega)]
      unfold fromOf
      by_cases h45 : wd (nat s) 0 = 45
      · rw [if_pos h45]; exact ref09_Fixed1 s P w hs (by omega) hr h45
      · rw [if_neg h45]; exact ref09_Fixed0 s P w hs (by omega) hr h45
    · have hI : fixedOf (nat s) places = (0, 2) := by unfold fixedOf; rw [if_neg (by omega), if_pos (by omega)]
      rw [hI]
      rw [hr] at HR
      have hcase : places < 0 ∨ (¬ places < 0 ∧ 9 < places) := by omega
      clear hI hr hc
      rcases hcase with h | ⟨h, h'⟩
      all_goals
        go_enter Try.func9, Try.ntmps9
        go_wp2_with (go_at_call 21; refine HR.out.mono ?_; rintro e w1 ⟨rfl, rfl⟩)
        go_ret2
        exact ⟨rfl, rfl⟩
  · have hI : fixedOf (nat s) places = (0, readE (nat s)) := by unfold fixedOf; rw [if_pos hr]
    rw [hI]
    have hr9 := readE_le (nat s)
    have r0 : ¬ (readE (nat s) : Int) = 0 := by omega
    have r1 : ((readE (nat s) : Int) == 0) = false := by simpa using r0
    clear hI hr
    generalize readE (nat s) = r at *
    go_enter Try.func9, Try.ntmps9
    go_wp2_with (go_at_call 21; refine HR.out.mono ?_; rintro e w1 ⟨rfl, rfl⟩)
    go_ret2
    exact ⟨rfl, rfl⟩
end Go.Proofs.Ytbgepjhnnlippaa

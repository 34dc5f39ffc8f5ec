/-
  The document's pairing: whether something may come; the last edge; the message that waits.
-/
import Derived.Test.YtkijonnbngnliaaPaqA
namespace Go.Proofs.Ytkijonnbngnliaa
open Go.RowKit
set_option linter.unusedVariables false

def optI (o : Option Nat) : Int := match o with
  | none => -1
  | some i => i
-- [MAY
set_option maxRecDepth 100000 in
set_option maxHeartbeats 2000000 in
theorem ref17_may (w : World) (r : Nat) (win : Int) (L : Value) (T : List Tg) (c : Int) (h : RefP w r win L T) (hl : T.length ≤ 100000) :
    Calls Try.prog 21 #[.pointer (some ⟨r, 0, none⟩), .int .i64 c] w fun e w' => e = .returned (.bool (mayT T c)) ∧ Grew w w' := by
  have HH := Lib.hid h
  have lt := h.at_.lt
  have c1 := h.at_.cell 1 _ rfl
  obtain ⟨A, cp, hL, hcp⟩ := ownT_form h.row
  subst hL
  have HD : ∀ n, Grew w (w.drewN n) := fun n => (Grew.refl w).drewN n
  unfold mayT
  by_cases h0 : 0 ≤ c
  · rw [decide_eq_true h0, Bool.true_and]
    have d0 : decide (c < 0) = false := decide_eq_false (by omega)
    by_cases hz : T.length = 0
    · rw [decide_eq_true hz, Bool.true_or]
      rw [hz] at c1
      have hz' := Lib.hid hz
      clear h hz
      go_enter Try.func21, Try.ntmps21
      go_upto_region 1 with fail
      go_quiet (fail)
      go_wp2_with fail
      go_ret
      exact ⟨rfl, HD _⟩
    · rw [decide_eq_false hz, Bool.false_or]
      obtain ⟨b, c', e, hb, hlt, _⟩ := ownT_head h.row (by omega)
      simp only [Value.slice.injEq] at e
      obtain ⟨rfl, -, rfl⟩ := e
      obtain ⟨m, hm⟩ : ∃ m, T.length - 1 = m := ⟨_, rfl⟩
      have ca := h.cell m 0 (by omega) (by decide) _ rfl
      rw [Nat.add_zero] at ca
      rw [hm]
      have e1 : IntKind.i64.wrap ((T.length : Int) - 1) = (m : Int) := by rw [IntWalk.i64_in _ (by omega)]; omega
      have m1 : (m : Int) < T.length := by omega
      have m0 : (0 : Int) ≤ m := by omega
      have hz1 : ((T.length : Int) == 0) = false := by rw [beq_eq_false_iff_ne]; omega
      generalize (tg T m).at_ = x at *
      clear h hm hz hcp
      by_cases hx : x ≤ c
      · have d1 : decide (x ≤ c) = true := decide_eq_true hx
        go_enter Try.func21, Try.ntmps21
        go_upto_region 1 with fail
        go_quiet (fail)
        go_wp2_with fail
        go_ret
        first | exact ⟨rfl, HD _⟩ | exact ⟨by rw [d1]; rfl, HD _⟩
      · have d1 : decide (x ≤ c) = false := decide_eq_false hx
        go_enter Try.func21, Try.ntmps21
        go_upto_region 1 with fail
        go_quiet (fail)
        go_wp2_with fail
        go_ret
        first | exact ⟨rfl, HD _⟩ | exact ⟨by rw [d1]; rfl, HD _⟩
  · rw [decide_eq_false h0, Bool.false_and]
    have d0 : decide (0 ≤ c) = false := decide_eq_false h0
    go_enter Try.func21, Try.ntmps21
    go_upto_region 1 with fail
    go_quiet (fail)
    go_wp2_with fail
    go_ret
    exact ⟨rfl, HD _⟩
-- MAY]
-- [LAST
set_option maxRecDepth 100000 in
set_option maxHeartbeats 2000000 in
theorem ref17_last (w : World) (r : Nat) (win : Int) (L : Value) (T : List Tg) (h : RefP w r win L T) (hl : T.length ≤ 100000) :
    Calls Try.prog 23 #[.pointer (some ⟨r, 0, none⟩)] w fun e w' => e = .returned (.int .i64 (optI (lastI T T.length))) ∧ w = w' := by
  have HH := Lib.hid h
  have lt := h.at_.lt
  have c1 := h.at_.cell 1 _ rfl
  obtain ⟨A, cp, hL, hcp⟩ := ownT_form h.row
  subst hL
  obtain ⟨R, HR⟩ : ∃ R, Hid (lastI T T.length = R) := ⟨_, Lib.hid rfl⟩
  rw [HR.out]
  have e0 : IntKind.i64.wrap ((T.length : Int) - 1) = (T.length : Int) - 1 := IntWalk.i64_in _ (by omega)
  clear h
  go_enter Try.func23, Try.ntmps23
  go_wp2_with fail
  go_loop [3] (fun i => ∃ k : Nat, k ≤ T.length ∧ i = .int .i64 ((k : Int) - 1) ∧ Hid (lastI T k = R)) (fun i => (intOf i + 1).toNat)
  case atStart => exact ⟨T.length, Nat.le_refl _, rfl, HR⟩
  case round =>
    obtain ⟨k, hk, rfl, HK⟩ := hrel
    cases k with
    | zero =>
      have hR : R = none := HK.out.symm
      subst hR
      go_wp2_with fail
      go_ret
      exact ⟨rfl, rfl⟩
    | succ m =>
      have em : (((m + 1 : Nat) : Int) - 1) = (m : Int) := by omega
      rw [em]
      obtain ⟨b, c', e, hb, hlt, _⟩ := ownT_head HH.out.row (by omega)
      simp only [Value.slice.injEq] at e
      obtain ⟨rfl, -, rfl⟩ := e
      have ce := HH.out.cell m 1 (by omega) (by decide) _ rfl
      have m1 : (m : Int) < T.length := by omega
      have m0 : (0 : Int) ≤ m := by omega
      have e1 : IntKind.i64.wrap ((m : Int) - 1) = (m : Int) - 1 := IntWalk.i64_in _ (by omega)
      have hK := HK.out
      unfold lastI at hK
      cases he : (tg T m).edge with
      | true =>
        rw [he] at ce hK
        have hR := Lib.hid hK
        clear hK he HK
        go_wp2_with fail
        go_ret
        refine ⟨?_, rfl⟩
        rw [← hR.out]
        rfl
      | false =>
        rw [he] at ce hK
        have hR : Hid (lastI T m = R) := Lib.hid (by simpa using hK)
        clear hK he HK
        go_wp2_with fail
        go_round
        case rel => exact ⟨m, by omega, by first | rfl | go_num, hR⟩
        case measure => simp [intOf]
-- LAST]
-- [WAIT
set_option maxRecDepth 100000 in
set_option maxHeartbeats 2000000 in
theorem ref17_Waiting (w : World) (r : Nat) (win : Int) (L : Value) (T : List Tg) (h : RefP w r win L T) (hl : T.length ≤ 100000) :
    Calls Try.prog 14 #[.pointer (some ⟨r, 0, none⟩)] w fun e w' => e = .returned (.int .i64 (optI (waitI T T.length))) ∧ w = w' := by
  have HH := Lib.hid h
  have lt := h.at_.lt
  have c1 := h.at_.cell 1 _ rfl
  obtain ⟨A, cp, hL, hcp⟩ := ownT_form h.row
  subst hL
  obtain ⟨R, HR⟩ : ∃ R, Hid (waitI T T.length = R) := ⟨_, Lib.hid rfl⟩
  rw [HR.out]
  have e0 : IntKind.i64.wrap ((T.length : Int) - 1) = (T.length : Int) - 1 := IntWalk.i64_in _ (by omega)
  clear h
  go_enter Try.func14, Try.ntmps14
  go_wp2_with fail
  go_loop [3] (fun i => ∃ k : Nat, k ≤ T.length ∧ i = .int .i64 ((k : Int) - 1) ∧ Hid (waitI T k = R)) (fun i => (intOf i + 1).toNat)
  case atStart => exact ⟨T.length, Nat.le_refl _, rfl, HR⟩
  case round =>
    obtain ⟨k, hk, rfl, HK⟩ := hrel
    cases k with
    | zero =>
      have hR : R = none := HK.out.symm
      subst hR
      go_wp2_with fail
      go_ret
      exact ⟨rfl, rfl⟩
    | succ m =>
      have em : (((m + 1 : Nat) : Int) - 1) = (m : Int) := by omega
      rw [em]
      obtain ⟨b, c', e, hb, hlt, _⟩ := ownT_head HH.out.row (by omega)
      simp only [Value.slice.injEq] at e
      obtain ⟨rfl, -, rfl⟩ := e
      have ce := HH.out.cell m 1 (by omega) (by decide) _ rfl
      have m1 : (m : Int) < T.length := by omega
      have m0 : (0 : Int) ≤ m := by omega
      have e1 : IntKind.i64.wrap ((m : Int) - 1) = (m : Int) - 1 := IntWalk.i64_in _ (by omega)
      have hK := HK.out
      unfold waitI at hK
      have c7 := HH.out.cell m 7 (by omega) (by decide) _ rfl
      have c9 := HH.out.cell m 9 (by omega) (by decide) _ rfl
      cases he : (tg T m).edge with
      | true =>
        rw [he] at ce hK
        have hR : Hid (waitI T m = R) := Lib.hid (by simpa using hK)
        clear hK he HK c7 c9
        go_wp2_with fail
        go_round
        case rel => exact ⟨m, by omega, by first | rfl | go_num, hR⟩
        case measure => simp [intOf]
      | false =>
        cases hn : (tg T m).msg.next with
        | false =>
          rw [he] at ce hK
          rw [hn] at c7 hK
          have hR : Hid (waitI T m = R) := Lib.hid (by simpa using hK)
          clear hK he hn HK c9
          go_wp2_with fail
          go_round
          case rel => exact ⟨m, by omega, by first | rfl | go_num, hR⟩
          case measure => simp [intOf]
        | true =>
          cases hg : (tg T m).gone with
          | true =>
            rw [he] at ce hK
            rw [hn] at c7 hK
            rw [hg] at c9 hK
            have hR : Hid (none = R) := Lib.hid (by simpa using hK)
            clear hK he hn hg HK
            go_wp2_with fail
            go_ret
            refine ⟨?_, rfl⟩
            rw [← hR.out]
            rfl
          | false =>
            rw [he] at ce hK
            rw [hn] at c7 hK
            rw [hg] at c9 hK
            have hR : Hid (some m = R) := Lib.hid (by simpa using hK)
            clear hK he hn hg HK
            go_wp2_with fail
            go_ret
            refine ⟨?_, rfl⟩
            rw [← hR.out]
            rfl
-- WAIT]
end Go.Proofs.Ytkijonnbngnliaa

/-
  Fields as plain lists of bytes: numbers, times, dates, one of some bytes.
  The document's fields: read, digits, numbers, hex digits, points.
  The document's fields: numbers, hex digits, points, numbers with places.
  The document's fields: numbers with places.
  The document's fields: times, dates, one of some bytes.
  The document's fields: dates.
-/
import Derived.Test.YtnhigfkhdmkoeaaGreatDoorP02
import Derived.Test.YtnhigfkhdmkoeaaGreatDoorP06
import Derived.LoopTactic
import Derived.Deep.CutBlock
import Derived.Deep.DeepCutAuto
import Derived.Deep.QuietTactic
import Derived.BigQuiet

namespace Go.Proofs.YtnhigfkhdmkoeaaGreatDoor
open Go.RowKit
set_option linter.unusedVariables false

/- Fields as plain lists of bytes: numbers, times, dates, one of some bytes. -/
def isDig (b : Nat) : Bool := decide (48 ≤ b ∧ b ≤ 57)
/-- Are the bytes from a place up to another one digits, one at least? -/
def digs (S : List Nat) (a b : Nat) : Bool := decide (a < b) && ((S.drop a).take (b - a)).all isDig
theorem digs_iff {S : List Nat} {a b : Nat} (hb : b ≤ S.length) : digs S a b = true ↔ a < b ∧ ∀ i, a ≤ i → i < b → isDig (wd S i) = true := by
  unfold digs
  rw [Bool.and_eq_true, decide_eq_true_eq, List.all_eq_true]
  refine ⟨fun ⟨h1, h2⟩ => ⟨h1, fun i hi hb' => ?_⟩, fun ⟨h1, h2⟩ => ⟨h1, fun x hx => ?_⟩⟩
  · refine h2 _ ?_
    rw [List.mem_take_iff_getElem]
    refine ⟨i - a, by rw [List.length_drop]; omega, ?_⟩
    rw [wd_lt (by omega), List.getElem_drop]
    congr 1
    omega
  · rw [List.mem_take_iff_getElem] at hx
    obtain ⟨i, hi, rfl⟩ := hx
    rw [List.length_drop] at hi
    have := h2 (a + i) (by omega) (by omega)
    rw [wd_lt (by omega)] at this
    rw [List.getElem_drop]
    exact this
/-- The number of k digits from a place on. -/
def numOf (S : List Nat) (a : Nat) : Nat → Nat
  | 0 => 0
  | k + 1 => numOf S a k * 10 + (wd S (a + k) - 48)
/-- May a field be read? -/
def readE (S : List Nat) : Nat := if S.length = 0 then 7 else if 20 < S.length then 3 else 0
def intAns (S : List Nat) (least most : Int) : Int × Nat :=
  if readE S ≠ 0 then (0, readE S) else if digs S 0 S.length = false then (0, 5) else if (numOf S 0 S.length : Int) < least ∨ most < (numOf S 0 S.length : Int) then (0, 9) else ((numOf S 0 S.length : Int), 0)
def isHex (b : Nat) : Bool := decide (48 ≤ b ∧ b ≤ 57 ∨ 65 ≤ b ∧ b ≤ 70)
def hexv (b : Nat) : Nat := if b ≤ 57 then b - 48 else b - 55
def hexTo (S : List Nat) : Nat → Nat
  | 0 => 0
  | k + 1 => hexTo S k * 16 + hexv (wd S k)
def hexOf (S : List Nat) : Int × Nat :=
  if readE S ≠ 0 then (0, readE S) else if S.all isHex = false then (0, 5) else if 15 < S.length then (0, 3) else ((hexTo S S.length : Nat), 0)
/-- Where the first point stands. -/
def pointOf (S : List Nat) : Nat := (S.takeWhile (fun b => b != 46)).length
def fromOf (S : List Nat) : Nat := if wd S 0 = 45 then 1 else 0
/-- The number with so many places. -/
def fixN (S : List Nat) (at_ base : Nat) : Nat → Nat
  | 0 => base
  | k + 1 => fixN S at_ base k * 10 + (if at_ + (k + 1) < S.length then wd S (at_ + (k + 1)) - 48 else 0)
def fixedOf (S : List Nat) (places : Int) : Int × Nat :=
  if readE S ≠ 0 then (0, readE S)
  else if places < 0 ∨ 9 < places then (0, 2)
  else if digs S (fromOf S) (pointOf S) = false ∨ (pointOf S < S.length ∧ digs S (pointOf S + 1) S.length = false) then (0, 5)
  else if 9 < pointOf S - fromOf S then (0, 9)
  else (if fromOf S = 1 then -(fixN S (pointOf S) (numOf S (fromOf S) (pointOf S - fromOf S)) places.toNat : Int) else (fixN S (pointOf S) (numOf S (fromOf S) (pointOf S - fromOf S)) places.toNat : Int), 0)
def twoOf (S : List Nat) (i : Nat) : Nat := 10 * (wd S i - 48) + (wd S (i + 1) - 48)
/-- A time of day: hours, minutes, seconds, whole; or the error. -/
def clockOf (S : List Nat) : (Nat × Nat × Nat × Bool) × Nat :=
  if readE S ≠ 0 then ((0, 0, 0, false), readE S)
  else if pointOf S ≠ 6 ∨ digs S 0 6 = false ∨ (6 < S.length ∧ digs S 7 S.length = false) then ((0, 0, 0, false), 5)
  else if 23 < twoOf S 0 ∨ 59 < twoOf S 2 ∨ 60 < twoOf S 4 then ((0, 0, 0, false), 5)
  else ((twoOf S 0, twoOf S 2, twoOf S 4, (S.drop 7).all (fun b => b == 48)), 0)
def dateOf (S : List Nat) : (Nat × Nat × Nat) × Nat :=
  if readE S ≠ 0 then ((0, 0, 0), readE S)
  else if S.length ≠ 6 ∨ digs S 0 6 = false ∨ twoOf S 0 < 1 ∨ 31 < twoOf S 0 ∨ twoOf S 2 < 1 ∨ 12 < twoOf S 2 then ((0, 0, 0), 5)
  else ((twoOf S 0, twoOf S 2, twoOf S 4), 0)
/-- The first place where a byte stands. -/
def placeOf (b : Nat) : List Nat → Nat
  | [] => 0
  | x :: L => if x = b then 0 else placeOf b L + 1
def oneOf (S O : List Nat) : Nat × Nat :=
  if readE S ≠ 0 then (0, readE S)
  else if S.length = 1 ∧ placeOf (wd S 0) O < O.length then (placeOf (wd S 0) O, 0)
  else (0, 5)

theorem numOf_lt (S : List Nat) (a : Nat) : ∀ k, (∀ i, a ≤ i → i < a + k → isDig (wd S i) = true) → numOf S a k < 10 ^ k := by
  intro k
  induction k with
  | zero => intro _; simp [numOf]
  | succ k ih =>
    intro h
    have h1 := ih (fun i hi hk => h i hi (by omega))
    have h2 := h (a + k) (by omega) (by omega)
    unfold isDig at h2
    simp at h2
    unfold numOf
    rw [Nat.pow_succ]
    omega
theorem numOf_mono (S : List Nat) (a : Nat) : ∀ k m, k ≤ m → numOf S a k ≤ numOf S a m := by
  intro k m h
  induction m with
  | zero => have : k = 0 := by omega
            subst this; exact Nat.le_refl _
  | succ m ih =>
    rcases Nat.lt_or_ge k (m + 1) with h1 | h1
    · have := ih (by omega)
      rw [numOf]
      omega
    · have : k = m + 1 := by omega
      subst this; exact Nat.le_refl _
theorem hexTo_lt (S : List Nat) : ∀ k, (∀ i, i < k → isHex (wd S i) = true) → hexTo S k < 16 ^ k := by
  intro k
  induction k with
  | zero => intro _; simp [hexTo]
  | succ k ih =>
    intro h
    have h1 := ih (fun i hi => h i (by omega))
    have h2 := h k (by omega)
    have : hexv (wd S k) < 16 := by
      unfold isHex at h2
      simp at h2
      unfold hexv
      split <;> omega
    unfold hexTo
    rw [Nat.pow_succ]
    omega
theorem pointOf_le (S : List Nat) : pointOf S ≤ S.length := by
  unfold pointOf
  exact (List.takeWhile_sublist _).length_le
theorem point_at (S : List Nat) (n : Nat) (h : ∀ i, i < n → wd S i ≠ 46) (hn : n ≤ S.length) (he : n = S.length ∨ wd S n = 46) : pointOf S = n := by
  induction S generalizing n with
  | nil => simp at hn; simp [pointOf, hn]
  | cons x S ih =>
    cases n with
    | zero =>
      rcases he with he | he
      · simp at he
      · simp [wd] at he
        simp [pointOf, he]
    | succ n =>
      have h0 := h 0 (by omega)
      simp [wd] at h0
      have := ih n (fun i hi => by have := h (i + 1) (by omega); simpa [wd] using this) (by simpa using hn) (by
        rcases he with he | he
        · left; simpa using he
        · right; simpa [wd] using he)
      unfold pointOf at this ⊢
      simp [h0, this]
theorem place_at (b : Nat) (L : List Nat) (n : Nat) (h : ∀ i, i < n → wd L i ≠ b) (hn : n ≤ L.length) (he : n = L.length ∨ wd L n = b) : placeOf b L = n := by
  induction L generalizing n with
  | nil => simp at hn; simp [placeOf, hn]
  | cons x S ih =>
    cases n with
    | zero =>
      rcases he with he | he
      · simp at he
      · simp [wd] at he
        simp [placeOf, he]
    | succ n =>
      have h0 := h 0 (by omega)
      simp [wd] at h0
      have := ih n (fun i hi => by have := h (i + 1) (by omega); simpa [wd] using this) (by simpa using hn) (by
        rcases he with he | he
        · left; simpa using he
        · right; simpa [wd] using he)
      simp [placeOf, h0, this]
theorem two_lt (S : List Nat) (i : Nat) (h1 : isDig (wd S i) = true) (h2 : isDig (wd S (i + 1)) = true) : twoOf S i < 100 := by
  unfold isDig at h1 h2
  simp at h1 h2
  unfold twoOf
  omega
/- The document's fields: read, digits, numbers, hex digits, points. -/
theorem str_at (s : ByteArray) (j : Nat) (h : j < s.size) (w : World) : Sem.run Tryz.prog (Instr.index 9 (.string s) (.int .i64 (j : Nat))) w = .ok (.int .u8 (wd (nat s) j : Nat)) w := by
  rw [run_index_string w 9 s .i64 j Tryz.underlying9, dif_pos ⟨by omega, by omega⟩]
  rw [← nat_wd s j h]
  rfl
theorem fld_ret_bool {a b : Bool} (h : a = b) : Ending.returned (.bool a) = .returned (.bool b) := by rw [h]
theorem ref09_read (s : ByteArray) (w : World) (hs : s.size ≤ 2000) : Calls Tryz.prog 102 #[.string s] w fun e w' => e = .returned (.int .i64 (readE (nat s) : Nat)) ∧ w = w' := by
  have hl := nat_length s
  unfold readE
  rw [hl]
  clear hl
  generalize hn : s.size = n at *
  by_cases h0 : n = 0
  · rw [if_pos h0]
    have h0' : (n : Int) = 0 := by omega
    go_enter Tryz.func102, Tryz.ntmps102
    go_wp2_with fail
    go_ret
    exact ⟨rfl, rfl⟩
  · rw [if_neg h0]
    have h0' : ¬ (n : Int) = 0 := by omega
    by_cases h1 : 20 < n
    · rw [if_pos h1]
      have h1' : (20 : Int) < n := by omega
      go_enter Tryz.func102, Tryz.ntmps102
      go_wp2_with fail
      go_ret
      exact ⟨rfl, rfl⟩
    · rw [if_neg h1]
      have h1' : ¬ (20 : Int) < n := by omega
      go_enter Tryz.func102, Tryz.ntmps102
      go_wp2_with fail
      go_ret
      exact ⟨rfl, rfl⟩

set_option maxHeartbeats 1000000 in
theorem ref09_Digits (s : ByteArray) (a b : Nat) (w : World) (hs : s.size ≤ 2000) (ha : a ≤ 2001) (hb : b ≤ s.size) :
    Calls Tryz.prog 103 #[.string s, .int .i64 (a : Nat), .int .i64 (b : Nat)] w fun e w' => e = .returned (.bool (digs (nat s) a b)) ∧ w = w' := by
  have hl := nat_length s
  have HA := fun j h w => Lib.hid (str_at s j h w)
  have HI := Lib.hid (digs_iff (S := nat s) (a := a) (b := b) (by omega))
  have HB := fun j => Lib.hid (nat_lt s j)
  go_enter Tryz.func103, Tryz.ntmps103
  go_wp2_with fail
  go_loop [7] (fun i => ∃ j : Nat, j ≤ b - a ∧ i = .int .i64 ((a + j : Nat) : Int) ∧ Hid (∀ q : Nat, a ≤ q → q < a + j → isDig (wd (nat s) q) = true)) (fun i => b + 1 - (intOf i).toNat)
  case atStart => exact ⟨0, by omega, by simp, fun i h1 h2 => by omega⟩
  case round =>
    obtain ⟨j, hj, rfl, hM⟩ := hrel
    obtain ⟨m, hm⟩ : ∃ m, a + j = m := ⟨_, rfl⟩
    rw [hm] at hM ⊢
    by_cases hlt : m < b
    · have y := fun w => (HA m (by omega) w).out
      have x256 := (HB m).out
      have m0 : (m : Int) < b := by omega
      by_cases hd : isDig (wd (nat s) m) = true
      · have HS : Hid (∀ i, a ≤ i → i < m + 1 → isDig (wd (nat s) i) = true) := fun i h1 h2 => by
          rcases Nat.lt_or_ge i m with h | h
          · exact hM.out i h1 h
          · obtain rfl : i = m := by omega
            exact hd
        unfold isDig at hd
        simp at hd
        have d1 : ¬ ((wd (nat s) m : Nat) : Int) < 48 := by omega
        have d2 : ¬ (57 : Int) < (wd (nat s) m : Nat) := by omega
        clear hM hd HA HB
        generalize wd (nat s) m = x at *
        go_wp2_with fail
        go_round
        case rel => exact ⟨j + 1, by omega, by rw [← hm]; simp; omega, by rw [show a + (j + 1) = m + 1 by omega]; exact HS⟩
        case measure => simp [intOf]; omega
      · have HF : Hid (digs (nat s) a b = false) := by
          show _ = _
          rw [← Bool.not_eq_true, HI.out]
          exact fun h => hd (h.2 m (by omega) hlt)
        unfold isDig at hd
        simp at hd
        have hd2 : wd (nat s) m < 48 ∨ (¬ wd (nat s) m < 48 ∧ 57 < wd (nat s) m) := by omega
        clear hM hd HA HB
        generalize wd (nat s) m = x at *
        rcases hd2 with hd2 | hd2
        all_goals go_wp2_with fail
        all_goals go_ret
        all_goals exact ⟨by rw [HF.out]; rfl, rfl⟩
    · have HF : Hid (digs (nat s) a b = decide (a < b)) := by
        show _ = _
        rw [Bool.eq_iff_iff, HI.out, decide_eq_true_eq]
        exact ⟨fun h => by omega, fun h => ⟨by omega, fun i h1 h2 => hM.out i h1 (by omega)⟩⟩
      have m0 : ¬ (m : Int) < b := by omega
      clear hM HA HB
      go_wp2_with fail
      go_ret
      exact ⟨by rw [HF.out]; rfl, rfl⟩
/- The document's fields: numbers, hex digits, points, numbers with places. -/
theorem ret_two {k l : IntKind} {a b c d : Int} (h : a = c) (h2 : b = d) : Ending.returned (.tuple #[.int k a, .int l b]) = .returned (.tuple #[.int k c, .int l d]) := by rw [h, h2]
theorem digs_all {S : List Nat} {a b : Nat} (hb : b ≤ S.length) (h : digs S a b = true) : ∀ i, a ≤ i → i < b → isDig (wd S i) = true := ((digs_iff hb).1 h).2
set_option maxHeartbeats 1000000 in
theorem ref09_Int (s : ByteArray) (least most : Int) (w : World) (hs : s.size ≤ 2000) (h1 : -9223372036854775808 ≤ least ∧ least ≤ 9223372036854775807) (h2 : -9223372036854775808 ≤ most ∧ most ≤ 9223372036854775807) :
    Calls Tryz.prog 105 #[.string s, .int .i64 least, .int .i64 most] w fun e w' => e = .returned (.tuple #[.int .i64 (intAns (nat s) least most).1, .int .i64 ((intAns (nat s) least most).2 : Nat)]) ∧ w = w' := by
  have hl := nat_length s
  have HR := Lib.hid (ref09_read s w hs)
  have HD := Lib.hid (ref09_Digits s 0 s.size w hs (by omega) (Nat.le_refl _))
  have HA := fun j h w => Lib.hid (str_at s j h w)
  by_cases hr : readE (nat s) = 0
  · rw [hr] at HR
    cases hd : digs (nat s) 0 s.size
    · have hI : intAns (nat s) least most = (0, 5) := by unfold intAns; rw [if_neg (by omega), hl, if_pos hd]
      rw [hd] at HD
      rw [hI]
      clear hI hr hd hl HA
      go_enter Tryz.func105, Tryz.ntmps105
      go_wp2_with (first | (go_at_call 102; refine HR.out.mono ?_; rintro e w1 ⟨rfl, rfl⟩) | (go_at_call 103; refine HD.out.mono ?_; rintro e w1 ⟨rfl, rfl⟩))
      go_ret2
      exact ⟨rfl, rfl⟩
    · have h20 : s.size ≤ 20 := by unfold readE at hr; rw [hl] at hr; by_cases h : s.size = 0 <;> by_cases h' : 20 < s.size <;> simp_all <;> omega
      have hdig := digs_all (S := nat s) (by omega) hd
      have hI : intAns (nat s) least most = if (numOf (nat s) 0 s.size : Int) < least ∨ most < (numOf (nat s) 0 s.size : Int) then (0, 9) else ((numOf (nat s) 0 s.size : Int), 0) := by unfold intAns; rw [if_neg (by omega), hl, if_neg (by rw [hd]; simp)]
      have HI := Lib.hid hI
      rw [hd] at HD
      have HG := Lib.hid hdig
      have HB := fun j => Lib.hid (nat_lt s j)
      have HMO := fun k m h => Lib.hid (numOf_mono (nat s) 0 k m h)
      clear hI hr hd hl hdig
      go_enter Tryz.func105, Tryz.ntmps105
      go_wp2_with (first | (go_at_call 102; refine HR.out.mono ?_; rintro e w1 ⟨rfl, rfl⟩) | (go_at_call 103; refine HD.out.mono ?_; rintro e w1 ⟨rfl, rfl⟩))
      go_loop [9, 10] (fun n i => ∃ j : Nat, j ≤ s.size ∧ i = .int .i64 (j : Nat) ∧ n = .int .i64 (numOf (nat s) 0 j : Nat) ∧ numOf (nat s) 0 j ≤ 9223372036854775807) (fun _ i => s.size - (intOf i).toNat)
      case atStart => exact ⟨0, by omega, rfl, rfl, by simp [numOf]⟩
      case round =>
        obtain ⟨j, hj, rfl, rfl, hn⟩ := hrel
        by_cases hlt : j < s.size
        · have y := fun w => (HA j hlt w).out
          have hdj := HG.out j (by omega) hlt
          have hst : Hid (numOf (nat s) 0 (j + 1) = numOf (nat s) 0 j * 10 + (wd (nat s) j - 48)) := by show _ = _; rw [numOf, Nat.zero_add]
          have hMO := (HMO (j + 1) s.size (by omega)).out
          unfold isDig at hdj
          simp at hdj
          have m0 : (j : Int) < s.size := by omega
          have e1 : IntKind.u8.wrap (((wd (nat s) j : Nat) : Int) - 48) = ((wd (nat s) j - 48 : Nat) : Int) := by rw [IntWalk.u8_in _ (by omega)]; omega
          have e2 : IntKind.i64.wrap ((wd (nat s) j - 48 : Nat) : Int) = ((wd (nat s) j - 48 : Nat) : Int) := IntWalk.i64_in _ (by omega)
          generalize hnn : numOf (nat s) 0 j = n at *
          have hd9 : wd (nat s) j - 48 ≤ 9 := by omega
          generalize wd (nat s) j - 48 = d at *
          by_cases ho : 922337203685477580 < n ∨ (n = 922337203685477580 ∧ 7 < d)
          · have hbig : 9223372036854775807 < numOf (nat s) 0 s.size := by have := hst.out; omega
            have hI2 : Hid (intAns (nat s) least most = (0, 9)) := by show _ = _; rw [HI.out, if_pos (.inr (by omega))]
            clear hst hMO hbig HI HG HMO HA HB
            rcases ho with ho | ⟨ho, ho2⟩
            · have o1 : (922337203685477580 : Int) < n := by omega
              go_wp2_with fail
              go_ret2
              exact ⟨by rw [hI2.out]; rfl, rfl⟩
            · have o1 : ¬ (922337203685477580 : Int) < n := by omega
              have o2 : (n : Int) = 922337203685477580 := by omega
              have o3 : (7 : Int) < d := by omega
              subst ho
              go_wp2_with fail
              go_ret2
              exact ⟨by rw [hI2.out]; rfl, rfl⟩
          · have hle : n * 10 + d ≤ 9223372036854775807 := by omega
            have o1 : ¬ (922337203685477580 : Int) < n := by omega
            have e3 : IntKind.i64.wrap ((n : Int) * 10) = (n : Int) * 10 := IntWalk.i64_in _ (by omega)
            have e4 : IntKind.i64.wrap ((n : Int) * 10 + d) = (n : Int) * 10 + d := IntWalk.i64_in _ (by omega)
            have ho2 : ¬ (n = 922337203685477580 ∧ 7 < d) := fun h => ho (.inr h)
            clear hMO HI HG HMO HA HB
            by_cases h9 : n = 922337203685477580
            · have o3 : ¬ (7 : Int) < d := by omega
              have o4 : (n : Int) = 922337203685477580 := by omega
              go_wp2_with fail
              go_round
              case rel => exact ⟨j + 1, by omega, by simp, by rw [hst.out]; simp <;> omega, by rw [hst.out]; omega⟩
              case measure => simp [intOf]; omega
            · have o4 : ¬ (n : Int) = 922337203685477580 := by omega
              have o5 : ((n : Int) == 922337203685477580) = false := by simpa using o4
              go_wp2_with fail
              go_round
              case rel => exact ⟨j + 1, by omega, by simp, by rw [hst.out]; simp <;> omega, by rw [hst.out]; omega⟩
              case measure => simp [intOf]; omega
        · obtain rfl : j = s.size := by omega
          generalize numOf (nat s) 0 s.size = n at *
          have HI2 := HI.out
          clear HA HB HG HMO HI
          by_cases c1 : (n : Int) < least
          · rw [if_pos (.inl c1)] at HI2
            go_wp2_with fail
            go_ret2
            exact ⟨rfl, rfl⟩
          · by_cases c2 : most < (n : Int)
            · rw [if_pos (.inr c2)] at HI2
              go_wp2_with fail
              go_ret2
              exact ⟨rfl, rfl⟩
            · rw [if_neg (by omega)] at HI2
              go_wp2_with fail
              go_ret2
              exact ⟨rfl, rfl⟩
  · have hI : intAns (nat s) least most = (0, readE (nat s)) := by unfold intAns; rw [if_pos hr]
    rw [hI]
    have hr9 : readE (nat s) ≤ 9 := by unfold readE; repeat' split
                                       all_goals omega
    have r0 : ¬ (readE (nat s) : Int) = 0 := by omega
    have r1 : ((readE (nat s) : Int) == 0) = false := by simpa using r0
    clear hI hl HD HA hr
    generalize readE (nat s) = r at *
    go_enter Tryz.func105, Tryz.ntmps105
    go_wp2_with (go_at_call 102; refine HR.out.mono ?_; rintro e w1 ⟨rfl, rfl⟩)
    go_ret2
    exact ⟨rfl, rfl⟩

theorem readE_zero {s : ByteArray} (h : readE (nat s) = 0) : 1 ≤ s.size ∧ s.size ≤ 20 := by
  unfold readE at h
  rw [nat_length] at h
  by_cases h0 : s.size = 0
  · rw [if_pos h0] at h; omega
  · rw [if_neg h0] at h
    by_cases h1 : 20 < s.size
    · rw [if_pos h1] at h; omega
    · omega
theorem readE_le (S : List Nat) : readE S ≤ 9 := by unfold readE; repeat' split
                                                    all_goals omega
theorem all_iff {S : List Nat} {p : Nat → Bool} : S.all p = true ↔ ∀ i, i < S.length → p (wd S i) = true := by
  rw [List.all_eq_true]
  refine ⟨fun h i hi => by rw [wd_lt hi]; exact h _ (List.getElem_mem hi), fun h x hx => ?_⟩
  obtain ⟨i, hi, rfl⟩ := List.getElem_of_mem hx
  have := h i hi
  rwa [wd_lt hi] at this

theorem ref09_point (s : ByteArray) (w : World) (hs : s.size ≤ 2000) :
    Calls Tryz.prog 106 #[.string s] w fun e w' => e = .returned (.int .i64 (pointOf (nat s) : Nat)) ∧ w = w' := by
  have hl := nat_length s
  have HA := fun j h w => Lib.hid (str_at s j h w)
  have HP := fun n h h2 h3 => Lib.hid (point_at (nat s) n h h2 h3)
  go_enter Tryz.func106, Tryz.ntmps106
  go_wp2_with fail
  go_loop [3] (fun i => ∃ j : Nat, j ≤ s.size ∧ i = .int .i64 (j : Nat) ∧ Hid (∀ q : Nat, q < j → wd (nat s) q ≠ 46)) (fun i => s.size - (intOf i).toNat)
  case atStart => exact ⟨0, by omega, rfl, fun q hq => by omega⟩
  case round =>
    obtain ⟨j, hj, rfl, hM⟩ := hrel
    by_cases hlt : j < s.size
    · have y := fun w => (HA j hlt w).out
      have m0 : (j : Int) < s.size := by omega
      by_cases h46 : wd (nat s) j = 46
      · have hI := HP j hM.out (by omega) (.inr h46)
        have e1 : ((wd (nat s) j : Nat) : Int) = 46 := by omega
        clear hM HA HP h46
        generalize wd (nat s) j = c at *
        go_wp2_with fail
        go_ret
        exact ⟨by rw [hI.out]; rfl, rfl⟩
      · have HS : Hid (∀ q : Nat, q < j + 1 → wd (nat s) q ≠ 46) := fun q hq => by
          rcases Nat.lt_or_ge q j with h | h
          · exact hM.out q h
          · obtain rfl : q = j := by omega
            exact h46
        have e1 : ¬ ((wd (nat s) j : Nat) : Int) = 46 := by omega
        have e2 : (((wd (nat s) j : Nat) : Int) == 46) = false := by simpa using e1
        clear hM HA HP h46
        generalize wd (nat s) j = c at *
        go_wp2_with fail
        go_round
        case rel => exact ⟨j + 1, by omega, by simp, HS⟩
        case measure => simp [intOf]; omega
    · obtain rfl : j = s.size := by omega
      have hI := HP s.size hM.out (by omega) (.inl (by omega))
      clear hM HA HP
      go_wp2_with fail
      go_ret
      exact ⟨by rw [hI.out]; rfl, rfl⟩
/- The document's fields: numbers with places. -/
theorem num_step (S : List Nat) (a m : Nat) (h : a ≤ m) : numOf S a (m + 1 - a) = numOf S a (m - a) * 10 + (wd S m - 48) := by
  rw [show m + 1 - a = (m - a) + 1 by omega, numOf, show a + (m - a) = m by omega]
theorem fixN_lt (S : List Nat) (p base : Nat) (hb : base < 10 ^ 9) (h : ∀ i, p < i → i < S.length → isDig (wd S i) = true) : ∀ k, fixN S p base k < 10 ^ (9 + k) := by
  intro k
  induction k with
  | zero => exact hb
  | succ k ih =>
    rw [fixN, show 9 + (k + 1) = (9 + k) + 1 by omega, Nat.pow_succ]
    split
    · rename_i hlt
      have h2 := h (p + (k + 1)) (by omega) hlt
      unfold isDig at h2
      simp at h2
      omega
    · omega
theorem point_pos (S : List Nat) (h : 0 < S.length) (h2 : wd S 0 ≠ 46) : 1 ≤ pointOf S := by
  cases S with
  | nil => simp at h
  | cons x S => simp [wd] at h2; simp [pointOf, h2]
/-- What a number with places is, once it is read and the places may be. -/
def fixedBody (S : List Nat) (P f : Nat) : Int × Nat :=
  if digs S f (pointOf S) = false ∨ (pointOf S < S.length ∧ digs S (pointOf S + 1) S.length = false) then (0, 5)
  else if 9 < pointOf S - f then (0, 9)
  else (if f = 1 then -(fixN S (pointOf S) (numOf S f (pointOf S - f)) P : Int) else (fixN S (pointOf S) (numOf S f (pointOf S - f)) P : Int), 0)
theorem fixed_body (S : List Nat) (P : Nat) (hr : readE S = 0) (hP : P ≤ 9) : fixedOf S (P : Nat) = fixedBody S P (fromOf S) := by
  unfold fixedOf fixedBody
  rw [if_neg (by omega), if_neg (by omega), Int.toNat_natCast]

set_option maxRecDepth 100000 in
set_option maxHeartbeats 1000000 in
theorem ref09_Fixed0 (s : ByteArray) (P : Nat) (w : World) (hs : s.size ≤ 2000) (hP : P ≤ 9) (hr : readE (nat s) = 0) (h45 : wd (nat s) 0 ≠ 45) :
    Calls Tryz.prog 87 #[.string s, .int .i64 (P : Nat)] w fun e w' => e = .returned (.tuple #[.int .i64 (fixedBody (nat s) P 0).1, .int .i64 ((fixedBody (nat s) P 0).2 : Nat)]) ∧ w = w' := by
  have hl := nat_length s
  have hz := readE_zero hr
  have HR := Lib.hid (ref09_read s w hs)
  rw [hr] at HR
  have HPT := Lib.hid (ref09_point s w hs)
  have hpl := pointOf_le (nat s)
  have HA := fun j h w => Lib.hid (str_at s j h w)
  have y0 : ∀ w, Sem.run Tryz.prog (Instr.index 9 (.string s) (.int .i64 0)) w = .ok (.int .u8 (wd (nat s) 0 : Nat)) w := fun w => str_at s 0 (by omega) w
  have HFX := Lib.hid (fixN_lt (nat s))
  have HNL := Lib.hid (numOf_lt (nat s) 0)
  have hB : Hid (fixedBody (nat s) P 0 = if digs (nat s) 0 (pointOf (nat s)) = false ∨ (pointOf (nat s) < s.size ∧ digs (nat s) (pointOf (nat s) + 1) s.size = false) then (0, 5)
    else if 9 < pointOf (nat s) - 0 then (0, 9) else ((fixN (nat s) (pointOf (nat s)) (numOf (nat s) 0 (pointOf (nat s) - 0)) P : Int), 0)) := by show _ = _; unfold fixedBody; rw [hl]; simp
  skip
  obtain ⟨p, hp⟩ : ∃ p, pointOf (nat s) = p := ⟨_, rfl⟩
  rw [hp] at HPT hB
  rw [hp, hl] at hpl
  have HD : Hid (Calls Tryz.prog 103 #[.string s, .int .i64 0, .int .i64 (p : Nat)] w fun e w' => e = .returned (.bool (digs (nat s) 0 p)) ∧ w = w') := ref09_Digits s 0 p w hs (by omega) hpl
  have HD2 : p < s.size → Hid (Calls Tryz.prog 103 #[.string s, .int .i64 ((p : Int) + 1), .int .i64 (s.size : Nat)] w fun e w' => e = .returned (.bool (digs (nat s) (p + 1) s.size)) ∧ w = w') := fun h => by
    have := ref09_Digits s (p + 1) s.size w hs (by omega) (Nat.le_refl _)
    rwa [show ((p + 1 : Nat) : Int) = (p : Int) + 1 by omega] at this
  have q0 : ¬ (P : Int) < 0 := by omega
  have q1 : ¬ (9 : Int) < P := by omega
  have z1 : (0 : Int) < s.size := by omega
  have c45 : ¬ ((wd (nat s) 0 : Nat) : Int) = 45 := by omega
  have c45' : (((wd (nat s) 0 : Nat) : Int) == 45) = false := by simpa using c45
  clear hp hr
  by_cases hpf : p < 0
  · exfalso
    omega
  have pf : ¬ (p : Int) < 0 := by omega
  cases hd : digs (nat s) 0 p
  · rw [hd] at HD
    have hI : Hid (fixedBody (nat s) P 0 = (0, 5)) := by show _ = _; rw [hB.out, if_pos (.inl hd)]
    clear hB hd HA HFX HNL HD2 hl
    generalize wd (nat s) 0 = c0 at *
    go_enter Tryz.func87, Tryz.ntmps87
    go_wp2_with (first | (go_at_call 102; refine HR.out.mono ?_; rintro e w1 ⟨rfl, rfl⟩) | (go_at_call 106; refine HPT.out.mono ?_; rintro e w1 ⟨rfl, rfl⟩) | (go_at_call 103; refine HD.out.mono ?_; rintro e w1 ⟨rfl, rfl⟩))
    all_goals go_ret2
    all_goals exact ⟨by rw [hI.out]; rfl, rfl⟩
  · rw [hd] at HD
    have hdig := digs_all (S := nat s) (by omega) hd
    have hfp : 0 < p := ((digs_iff (by omega)).1 hd).1
    by_cases hb2 : p < s.size ∧ digs (nat s) (p + 1) s.size = false
    · have hI : Hid (fixedBody (nat s) P 0 = (0, 5)) := by show _ = _; rw [hB.out, if_pos (.inr hb2)]
      have HD3 := HD2 hb2.1
      rw [hb2.2] at HD3
      have p1 : (p : Int) < s.size := by omega
      have e1 : IntKind.i64.wrap ((p : Int) + 1) = (p : Int) + 1 := IntWalk.i64_in _ (by omega)
      clear hB hd HA HFX HNL HD2 hl hb2 hdig
      generalize wd (nat s) 0 = c0 at *
      go_enter Tryz.func87, Tryz.ntmps87
      go_wp2_with (first | (go_at_call 102; refine HR.out.mono ?_; rintro e w1 ⟨rfl, rfl⟩) | (go_at_call 106; refine HPT.out.mono ?_; rintro e w1 ⟨rfl, rfl⟩) | (go_at_call 103; first | (with_reducible refine HD.out.mono ?_; rintro e w1 ⟨rfl, rfl⟩) | (with_reducible refine HD3.out.mono ?_; rintro e w1 ⟨rfl, rfl⟩)))
      all_goals go_ret2
      all_goals exact ⟨by rw [hI.out]; rfl, rfl⟩
    · have HD3 : p < s.size → Hid (Calls Tryz.prog 103 #[.string s, .int .i64 ((p : Int) + 1), .int .i64 (s.size : Nat)] w fun e w' => e = .returned (.bool true) ∧ w = w') := fun h => by
        have hb3 : digs (nat s) (p + 1) s.size = true := by cases hq : digs (nat s) (p + 1) s.size; exact absurd ⟨h, hq⟩ hb2; rfl
        have := HD2 h
        rwa [hb3] at this
      have hfrac : Hid (∀ i, p < i → i < (nat s).length → isDig (wd (nat s) i) = true) := fun i h1 h2 => by
        rw [hl] at h2
        have hb3 : digs (nat s) (p + 1) s.size = true := by cases hq : digs (nat s) (p + 1) s.size; exact absurd ⟨by omega, hq⟩ hb2; rfl
        exact digs_all (S := nat s) (by omega) hb3 i (by omega) h2
      have hB2 : Hid (fixedBody (nat s) P 0 = if 9 < p - 0 then (0, 9) else ((fixN (nat s) p (numOf (nat s) 0 (p - 0)) P : Int), 0)) := by show _ = _; rw [hB.out, if_neg (fun h => by rcases h with h | h; rw [hd] at h; cases h; exact hb2 h)]
      have e1 : IntKind.i64.wrap ((p : Int) + 1) = (p : Int) + 1 := IntWalk.i64_in _ (by omega)
      have e2 : IntKind.i64.wrap ((p : Int) - 0) = (p : Int) - 0 := IntWalk.i64_in _ (by omega)
      have HG := Lib.hid hdig
      have HL := Lib.hid hl
      clear hB hd hb2 hdig HD2 hl
      have HC0 : Hid (wd (nat s) 0 = wd (nat s) 0) := rfl
      go_enter Tryz.func87, Tryz.ntmps87
      go_upto_region 10 with (first | (go_at_call 102; refine HR.out.mono ?_; rintro e w1 ⟨rfl, rfl⟩) | (go_at_call 106; refine HPT.out.mono ?_; rintro e w1 ⟨rfl, rfl⟩))
      go_cut [52] (fun q wx => q = .bool false ∧ w = wx)
      case first =>
        by_cases hps : p < s.size
        · have HD4 := HD3 hps
          have p1 : (p : Int) < s.size := by omega
          clear HD3 hB2 HA HFX HNL HG hfrac
          generalize wd (nat s) 0 = c0 at *
          go_wp2_with (go_at_call 103; first | (with_reducible refine HD.out.mono ?_; rintro e w1 ⟨rfl, rfl⟩) | (with_reducible refine HD4.out.mono ?_; rintro e w1 ⟨rfl, rfl⟩))
          all_goals go_meet
          all_goals exact ⟨by first | rfl | (simp; omega), rfl⟩
        · have p1 : ¬ (p : Int) < s.size := by omega
          clear HD3 hB2 HA HFX HNL HG hfrac
          generalize wd (nat s) 0 = c0 at *
          go_wp2_with (go_at_call 103; refine HD.out.mono ?_; rintro e w1 ⟨rfl, rfl⟩)
          all_goals go_meet
          all_goals exact ⟨by first | rfl | (simp; omega), rfl⟩
      case rest =>
        obtain ⟨rfl, rfl⟩ := hcut
        clear HD3 HR HPT HD y0
        by_cases h9 : 9 < p - 0
        · have hI : Hid (fixedBody (nat s) P 0 = (0, 9)) := by show _ = _; rw [hB2.out, if_pos h9]
          have p1 : (9 : Int) < (p : Int) - 0 := by omega
          have p2 : (9 : Int) < p := by omega
          clear hB2 HA HFX HNL HG hfrac
          go_wp2_with fail
          go_ret2
          exact ⟨by rw [hI.out]; rfl, rfl⟩
        · have hI : Hid (fixedBody (nat s) P 0 = ((fixN (nat s) p (numOf (nat s) 0 (p - 0)) P : Int), 0)) := by show _ = _; rw [hB2.out, if_neg h9]
          have p1 : ¬ (9 : Int) < (p : Int) - 0 := by omega
          have p2 : ¬ (9 : Int) < p := by omega
          have hbase : Hid (numOf (nat s) 0 (p - 0) < 10 ^ 9) := Nat.lt_of_lt_of_le (HNL.out (p - 0) (fun i h1 h2 => HG.out i h1 (by omega))) (Nat.pow_le_pow_right (by omega) (by omega))
          have HMO := fun k m h => Lib.hid (numOf_mono (nat s) 0 k m h)
          have hps2 : p ≤ s.size := hpl
          clear hB2 HNL h9
          go_wp2_with fail
          go_loop [9, 10] (fun n i => ∃ m : Nat, 0 ≤ m ∧ m ≤ p ∧ i = .int .i64 (m : Nat) ∧ n = .int .i64 (numOf (nat s) 0 (m - 0) : Nat)) (fun _ i => p - (intOf i).toNat)
          case atStart => exact ⟨0, by omega, by omega, by simp, by simp [numOf]⟩
          case round =>
            obtain ⟨m, hm1, hm2, rfl, rfl⟩ := hrel
            by_cases hlt : m < p
            · have y := fun w => (HA m (by omega) w).out
              have hdj := HG.out m (by omega) hlt
              have hst : Hid (numOf (nat s) 0 (m + 1 - 0) = numOf (nat s) 0 (m - 0) * 10 + (wd (nat s) m - 48)) := num_step _ _ _ hm1
              have hb1 : numOf (nat s) 0 (m - 0) < 10 ^ 9 := Nat.lt_of_le_of_lt (HMO (m - 0) (p - 0) (by omega)).out hbase.out
              unfold isDig at hdj
              simp at hdj
              have m0 : (m : Int) < p := by omega
              have m1 : (m : Int) < s.size := by omega
              have m2 : (0 : Int) ≤ m := by omega
              have d1 : IntKind.u8.wrap (((wd (nat s) m : Nat) : Int) - 48) = ((wd (nat s) m - 48 : Nat) : Int) := by rw [IntWalk.u8_in _ (by omega)]; omega
              have d2 : IntKind.i64.wrap ((wd (nat s) m - 48 : Nat) : Int) = ((wd (nat s) m - 48 : Nat) : Int) := IntWalk.i64_in _ (by omega)
              have hd9 : wd (nat s) m - 48 ≤ 9 := by omega
              generalize wd (nat s) m - 48 = d at *
              generalize numOf (nat s) 0 (m - 0) = n at *
              have d3 : IntKind.i64.wrap ((n : Int) * 10) = (n : Int) * 10 := IntWalk.i64_in _ (by omega)
              have d4 : IntKind.i64.wrap ((n : Int) * 10 + d) = (n : Int) * 10 + d := IntWalk.i64_in _ (by omega)
              clear HA HG HFX hfrac HMO hI hbase
              go_wp2_with fail
              go_round
              case rel => exact ⟨m + 1, by omega, by omega, by simp, by rw [hst.out]; simp⟩
              case measure => simp [intOf]; omega
            · obtain rfl : m = p := by omega
              have m0 : ¬ (m : Int) < m := by omega
              have hb9 := hbase.out
              obtain ⟨B, hBB⟩ : ∃ B, numOf (nat s) 0 (m - 0) = B := ⟨_, rfl⟩
              rw [hBB] at hI hb9
              rw [hBB]
              have HFL := fun k => Lib.hid (HFX.out m B hb9 hfrac.out k)
              have HST := fun k => Lib.hid (show fixN (nat s) m B (k + 1) = fixN (nat s) m B k * 10 + (if m + (k + 1) < (nat s).length then wd (nat s) (m + (k + 1)) - 48 else 0) from rfl)
              clear hbase HMO HFX hBB HG
              go_wp2_with fail
              go_loop [9, 11] (fun n i => ∃ k : Nat, k ≤ P ∧ i = .int .i64 ((k + 1 : Nat) : Int) ∧ n = .int .i64 (fixN (nat s) m B k : Nat)) (fun _ i => P + 1 - (intOf i).toNat)
              case atStart => exact ⟨0, by omega, by simp, by simp [fixN]⟩
              case round =>
                obtain ⟨k, hk, rfl, rfl⟩ := hrel
                by_cases hkP : k < P
                · have c1 : ((k + 1 : Nat) : Int) ≤ P := by omega
                  have hfl := (HFL k).out
                  have hfl2 := (HFL (k + 1)).out
                  have hp1 : 10 ^ (9 + k) ≤ 10 ^ 17 := Nat.pow_le_pow_right (by omega) (by omega)
                  have hst := HST k
                  have c2 : IntKind.i64.wrap ((m : Int) + ((k + 1 : Nat) : Int)) = ((m + (k + 1) : Nat) : Int) := by rw [IntWalk.i64_in _ (by omega)]; omega
                  rw [HL.out] at hst
                  by_cases hin : m + (k + 1) < s.size
                  · have hst := Lib.hid (show fixN (nat s) m B (k + 1) = fixN (nat s) m B k * 10 + (wd (nat s) (m + (k + 1)) - 48) by rw [hst.out, if_pos hin])
                    have hdj := hfrac.out (m + (k + 1)) (by omega) (by rw [HL.out]; exact hin)
                    have y := fun w => (HA (m + (k + 1)) hin w).out
                    obtain ⟨r, hr⟩ : ∃ r, m + (k + 1) = r := ⟨_, rfl⟩
                    rw [hr] at hst hdj y c2 hin
                    have m0 : (r : Int) < s.size := by omega
                    unfold isDig at hdj
                    simp at hdj
                    have d1 : IntKind.u8.wrap (((wd (nat s) r : Nat) : Int) - 48) = ((wd (nat s) r - 48 : Nat) : Int) := by rw [IntWalk.u8_in _ (by omega)]; omega
                    have d2 : IntKind.i64.wrap ((wd (nat s) r - 48 : Nat) : Int) = ((wd (nat s) r - 48 : Nat) : Int) := IntWalk.i64_in _ (by omega)
                    have hd9 : wd (nat s) r - 48 ≤ 9 := by omega
                    generalize wd (nat s) r - 48 = d at *
                    generalize fixN (nat s) m B k = n at *
                    have d3 : IntKind.i64.wrap ((n : Int) * 10) = (n : Int) * 10 := IntWalk.i64_in _ (by omega)
                    have d4 : IntKind.i64.wrap ((n : Int) * 10 + d) = (n : Int) * 10 + d := IntWalk.i64_in _ (by omega)
                    obtain ⟨k1, hk1⟩ : ∃ k1, k + 1 = k1 := ⟨_, rfl⟩
                    rw [hk1] at c1 c2 ⊢
                    clear HA hfrac HFL HST hI hfl hfl2 hp1
                    go_wp2_with fail
                    go_round
                    case rel => exact ⟨k1, by omega, by simp, by rw [← hk1, hst.out]; simp⟩
                    case measure => simp [intOf]; omega
                  · have hst := Lib.hid (show fixN (nat s) m B (k + 1) = fixN (nat s) m B k * 10 by rw [hst.out, if_neg hin, Nat.add_zero])
                    obtain ⟨r, hr⟩ : ∃ r, m + (k + 1) = r := ⟨_, rfl⟩
                    rw [hr] at c2 hin
                    have m0 : ¬ (r : Int) < s.size := by omega
                    generalize fixN (nat s) m B k = n at *
                    have d3 : IntKind.i64.wrap ((n : Int) * 10) = (n : Int) * 10 := IntWalk.i64_in _ (by omega)
                    obtain ⟨k1, hk1⟩ : ∃ k1, k + 1 = k1 := ⟨_, rfl⟩
                    rw [hk1] at c1 c2 ⊢
                    clear HA hfrac HFL HST hI hfl hfl2 hp1
                    go_wp2_with fail
                    go_round
                    case rel => exact ⟨k1, by omega, by simp, by rw [← hk1, hst.out]; simp⟩
                    case measure => simp [intOf]; omega
                · obtain rfl : k = P := by omega
                  have c1 : ¬ ((k + 1 : Nat) : Int) ≤ k := by omega
                  have hfl := (HFL k).out
                  have hp1 : 10 ^ (9 + k) ≤ 10 ^ 18 := Nat.pow_le_pow_right (by omega) (by omega)
                  generalize fixN (nat s) m B k = n at *
                  have d3 : IntKind.i64.wrap (-(n : Int)) = -(n : Int) := IntWalk.i64_in _ (by omega)
                  generalize k + 1 = k1 at *
                  clear HA hfrac HFL HST hfl hp1
                  go_wp2_with fail
                  go_ret2
                  exact ⟨by rw [hI.out]; rfl, rfl⟩

set_option maxRecDepth 100000 in
set_option maxHeartbeats 1000000 in
theorem ref09_Fixed1 (s : ByteArray) (P : Nat) (w : World) (hs : s.size ≤ 2000) (hP : P ≤ 9) (hr : readE (nat s) = 0) (h45 : wd (nat s) 0 = 45) :
    Calls Tryz.prog 87 #[.string s, .int .i64 (P : Nat)] w fun e w' => e = .returned (.tuple #[.int .i64 (fixedBody (nat s) P 1).1, .int .i64 ((fixedBody (nat s) P 1).2 : Nat)]) ∧ w = w' := by
  have hl := nat_length s
  have hz := readE_zero hr
  have HR := Lib.hid (ref09_read s w hs)
  rw [hr] at HR
  have HPT := Lib.hid (ref09_point s w hs)
  have hpl := pointOf_le (nat s)
  have HA := fun j h w => Lib.hid (str_at s j h w)
  have y0 : ∀ w, Sem.run Tryz.prog (Instr.index 9 (.string s) (.int .i64 0)) w = .ok (.int .u8 (wd (nat s) 0 : Nat)) w := fun w => str_at s 0 (by omega) w
  have HFX := Lib.hid (fixN_lt (nat s))
  have HNL := Lib.hid (numOf_lt (nat s) 1)
  have hB : Hid (fixedBody (nat s) P 1 = if digs (nat s) 1 (pointOf (nat s)) = false ∨ (pointOf (nat s) < s.size ∧ digs (nat s) (pointOf (nat s) + 1) s.size = false) then (0, 5)
    else if 9 < pointOf (nat s) - 1 then (0, 9) else (-(fixN (nat s) (pointOf (nat s)) (numOf (nat s) 1 (pointOf (nat s) - 1)) P : Int), 0)) := by show _ = _; unfold fixedBody; rw [hl]; simp
  have hpp := point_pos (nat s) (by omega) (by omega)
  obtain ⟨p, hp⟩ : ∃ p, pointOf (nat s) = p := ⟨_, rfl⟩
  rw [hp] at HPT hB hpp
  rw [hp, hl] at hpl
  have HD : Hid (Calls Tryz.prog 103 #[.string s, .int .i64 1, .int .i64 (p : Nat)] w fun e w' => e = .returned (.bool (digs (nat s) 1 p)) ∧ w = w') := ref09_Digits s 1 p w hs (by omega) hpl
  have HD2 : p < s.size → Hid (Calls Tryz.prog 103 #[.string s, .int .i64 ((p : Int) + 1), .int .i64 (s.size : Nat)] w fun e w' => e = .returned (.bool (digs (nat s) (p + 1) s.size)) ∧ w = w') := fun h => by
    have := ref09_Digits s (p + 1) s.size w hs (by omega) (Nat.le_refl _)
    rwa [show ((p + 1 : Nat) : Int) = (p : Int) + 1 by omega] at this
  have q0 : ¬ (P : Int) < 0 := by omega
  have q1 : ¬ (9 : Int) < P := by omega
  have z1 : (0 : Int) < s.size := by omega
  have c45 : ((wd (nat s) 0 : Nat) : Int) = 45 := by omega
  clear hp hr
  by_cases hpf : p < 1
  · exfalso
    omega
  have pf : ¬ (p : Int) < 1 := by omega
  cases hd : digs (nat s) 1 p
  · rw [hd] at HD
    have hI : Hid (fixedBody (nat s) P 1 = (0, 5)) := by show _ = _; rw [hB.out, if_pos (.inl hd)]
    clear hB hd HA HFX HNL HD2 hl
    generalize wd (nat s) 0 = c0 at *
    go_enter Tryz.func87, Tryz.ntmps87
    go_wp2_with (first | (go_at_call 102; refine HR.out.mono ?_; rintro e w1 ⟨rfl, rfl⟩) | (go_at_call 106; refine HPT.out.mono ?_; rintro e w1 ⟨rfl, rfl⟩) | (go_at_call 103; refine HD.out.mono ?_; rintro e w1 ⟨rfl, rfl⟩))
    all_goals go_ret2
    all_goals exact ⟨by rw [hI.out]; rfl, rfl⟩
  · rw [hd] at HD
    have hdig := digs_all (S := nat s) (by omega) hd
    have hfp : 1 < p := ((digs_iff (by omega)).1 hd).1
    by_cases hb2 : p < s.size ∧ digs (nat s) (p + 1) s.size = false
    · have hI : Hid (fixedBody (nat s) P 1 = (0, 5)) := by show _ = _; rw [hB.out, if_pos (.inr hb2)]
      have HD3 := HD2 hb2.1
      rw [hb2.2] at HD3
      have p1 : (p : Int) < s.size := by omega
      have e1 : IntKind.i64.wrap ((p : Int) + 1) = (p : Int) + 1 := IntWalk.i64_in _ (by omega)
      clear hB hd HA HFX HNL HD2 hl hb2 hdig
      generalize wd (nat s) 0 = c0 at *
      go_enter Tryz.func87, Tryz.ntmps87
      go_wp2_with (first | (go_at_call 102; refine HR.out.mono ?_; rintro e w1 ⟨rfl, rfl⟩) | (go_at_call 106; refine HPT.out.mono ?_; rintro e w1 ⟨rfl, rfl⟩) | (go_at_call 103; first | (with_reducible refine HD.out.mono ?_; rintro e w1 ⟨rfl, rfl⟩) | (with_reducible refine HD3.out.mono ?_; rintro e w1 ⟨rfl, rfl⟩)))
      all_goals go_ret2
      all_goals exact ⟨by rw [hI.out]; rfl, rfl⟩
    · have HD3 : p < s.size → Hid (Calls Tryz.prog 103 #[.string s, .int .i64 ((p : Int) + 1), .int .i64 (s.size : Nat)] w fun e w' => e = .returned (.bool true) ∧ w = w') := fun h => by
        have hb3 : digs (nat s) (p + 1) s.size = true := by cases hq : digs (nat s) (p + 1) s.size; exact absurd ⟨h, hq⟩ hb2; rfl
        have := HD2 h
        rwa [hb3] at this
      have hfrac : Hid (∀ i, p < i → i < (nat s).length → isDig (wd (nat s) i) = true) := fun i h1 h2 => by
        rw [hl] at h2
        have hb3 : digs (nat s) (p + 1) s.size = true := by cases hq : digs (nat s) (p + 1) s.size; exact absurd ⟨by omega, hq⟩ hb2; rfl
        exact digs_all (S := nat s) (by omega) hb3 i (by omega) h2
      have hB2 : Hid (fixedBody (nat s) P 1 = if 9 < p - 1 then (0, 9) else (-(fixN (nat s) p (numOf (nat s) 1 (p - 1)) P : Int), 0)) := by show _ = _; rw [hB.out, if_neg (fun h => by rcases h with h | h; rw [hd] at h; cases h; exact hb2 h)]
      have e1 : IntKind.i64.wrap ((p : Int) + 1) = (p : Int) + 1 := IntWalk.i64_in _ (by omega)
      have e2 : IntKind.i64.wrap ((p : Int) - 1) = (p : Int) - 1 := IntWalk.i64_in _ (by omega)
      have HG := Lib.hid hdig
      have HL := Lib.hid hl
      clear hB hd hb2 hdig HD2 hl
      have HC0 : Hid (wd (nat s) 0 = wd (nat s) 0) := rfl
      go_enter Tryz.func87, Tryz.ntmps87
      go_upto_region 10 with (first | (go_at_call 102; refine HR.out.mono ?_; rintro e w1 ⟨rfl, rfl⟩) | (go_at_call 106; refine HPT.out.mono ?_; rintro e w1 ⟨rfl, rfl⟩))
      go_cut [52] (fun q wx => q = .bool false ∧ w = wx)
      case first =>
        by_cases hps : p < s.size
        · have HD4 := HD3 hps
          have p1 : (p : Int) < s.size := by omega
          clear HD3 hB2 HA HFX HNL HG hfrac
          generalize wd (nat s) 0 = c0 at *
          go_wp2_with (go_at_call 103; first | (with_reducible refine HD.out.mono ?_; rintro e w1 ⟨rfl, rfl⟩) | (with_reducible refine HD4.out.mono ?_; rintro e w1 ⟨rfl, rfl⟩))
          all_goals go_meet
          all_goals exact ⟨by first | rfl | (simp; omega), rfl⟩
        · have p1 : ¬ (p : Int) < s.size := by omega
          clear HD3 hB2 HA HFX HNL HG hfrac
          generalize wd (nat s) 0 = c0 at *
          go_wp2_with (go_at_call 103; refine HD.out.mono ?_; rintro e w1 ⟨rfl, rfl⟩)
          all_goals go_meet
          all_goals exact ⟨by first | rfl | (simp; omega), rfl⟩
      case rest =>
        obtain ⟨rfl, rfl⟩ := hcut
        clear HD3 HR HPT HD y0
        by_cases h9 : 9 < p - 1
        · have hI : Hid (fixedBody (nat s) P 1 = (0, 9)) := by show _ = _; rw [hB2.out, if_pos h9]
          have p1 : (9 : Int) < (p : Int) - 1 := by omega
          skip
          clear hB2 HA HFX HNL HG hfrac
          go_wp2_with fail
          go_ret2
          exact ⟨by rw [hI.out]; rfl, rfl⟩
        · have hI : Hid (fixedBody (nat s) P 1 = (-(fixN (nat s) p (numOf (nat s) 1 (p - 1)) P : Int), 0)) := by show _ = _; rw [hB2.out, if_neg h9]
          have p1 : ¬ (9 : Int) < (p : Int) - 1 := by omega
          skip
          have hbase : Hid (numOf (nat s) 1 (p - 1) < 10 ^ 9) := Nat.lt_of_lt_of_le (HNL.out (p - 1) (fun i h1 h2 => HG.out i h1 (by omega))) (Nat.pow_le_pow_right (by omega) (by omega))
          have HMO := fun k m h => Lib.hid (numOf_mono (nat s) 1 k m h)
          have hps2 : p ≤ s.size := hpl
          clear hB2 HNL h9
          go_wp2_with fail
          go_loop [9, 10] (fun n i => ∃ m : Nat, 1 ≤ m ∧ m ≤ p ∧ i = .int .i64 (m : Nat) ∧ n = .int .i64 (numOf (nat s) 1 (m - 1) : Nat)) (fun _ i => p - (intOf i).toNat)
          case atStart => exact ⟨1, by omega, by omega, by simp, by simp [numOf]⟩
          case round =>
            obtain ⟨m, hm1, hm2, rfl, rfl⟩ := hrel
            by_cases hlt : m < p
            · have y := fun w => (HA m (by omega) w).out
              have hdj := HG.out m (by omega) hlt
              have hst : Hid (numOf (nat s) 1 (m + 1 - 1) = numOf (nat s) 1 (m - 1) * 10 + (wd (nat s) m - 48)) := num_step _ _ _ hm1
              have hb1 : numOf (nat s) 1 (m - 1) < 10 ^ 9 := Nat.lt_of_le_of_lt (HMO (m - 1) (p - 1) (by omega)).out hbase.out
              unfold isDig at hdj
              simp at hdj
              have m0 : (m : Int) < p := by omega
              have m1 : (m : Int) < s.size := by omega
              have m2 : (0 : Int) ≤ m := by omega
              have d1 : IntKind.u8.wrap (((wd (nat s) m : Nat) : Int) - 48) = ((wd (nat s) m - 48 : Nat) : Int) := by rw [IntWalk.u8_in _ (by omega)]; omega
              have d2 : IntKind.i64.wrap ((wd (nat s) m - 48 : Nat) : Int) = ((wd (nat s) m - 48 : Nat) : Int) := IntWalk.i64_in _ (by omega)
              have hd9 : wd (nat s) m - 48 ≤ 9 := by omega
              generalize wd (nat s) m - 48 = d at *
              generalize numOf (nat s) 1 (m - 1) = n at *
              have d3 : IntKind.i64.wrap ((n : Int) * 10) = (n : Int) * 10 := IntWalk.i64_in _ (by omega)
              have d4 : IntKind.i64.wrap ((n : Int) * 10 + d) = (n : Int) * 10 + d := IntWalk.i64_in _ (by omega)
              clear HA HG HFX hfrac HMO hI hbase
              go_wp2_with fail
              go_round
              case rel => exact ⟨m + 1, by omega, by omega, by simp, by rw [hst.out]; simp⟩
              case measure => simp [intOf]; omega
            · obtain rfl : m = p := by omega
              have m0 : ¬ (m : Int) < m := by omega
              have hb9 := hbase.out
              obtain ⟨B, hBB⟩ : ∃ B, numOf (nat s) 1 (m - 1) = B := ⟨_, rfl⟩
              rw [hBB] at hI hb9
              rw [hBB]
              have HFL := fun k => Lib.hid (HFX.out m B hb9 hfrac.out k)
              have HST := fun k => Lib.hid (show fixN (nat s) m B (k + 1) = fixN (nat s) m B k * 10 + (if m + (k + 1) < (nat s).length then wd (nat s) (m + (k + 1)) - 48 else 0) from rfl)
              clear hbase HMO HFX hBB HG
              go_wp2_with fail
              go_loop [9, 11] (fun n i => ∃ k : Nat, k ≤ P ∧ i = .int .i64 ((k + 1 : Nat) : Int) ∧ n = .int .i64 (fixN (nat s) m B k : Nat)) (fun _ i => P + 1 - (intOf i).toNat)
              case atStart => exact ⟨0, by omega, by simp, by simp [fixN]⟩
              case round =>
                obtain ⟨k, hk, rfl, rfl⟩ := hrel
                by_cases hkP : k < P
                · have c1 : ((k + 1 : Nat) : Int) ≤ P := by omega
                  have hfl := (HFL k).out
                  have hfl2 := (HFL (k + 1)).out
                  have hp1 : 10 ^ (9 + k) ≤ 10 ^ 17 := Nat.pow_le_pow_right (by omega) (by omega)
                  have hst := HST k
                  have c2 : IntKind.i64.wrap ((m : Int) + ((k + 1 : Nat) : Int)) = ((m + (k + 1) : Nat) : Int) := by rw [IntWalk.i64_in _ (by omega)]; omega
                  rw [HL.out] at hst
                  by_cases hin : m + (k + 1) < s.size
                  · have hst := Lib.hid (show fixN (nat s) m B (k + 1) = fixN (nat s) m B k * 10 + (wd (nat s) (m + (k + 1)) - 48) by rw [hst.out, if_pos hin])
                    have hdj := hfrac.out (m + (k + 1)) (by omega) (by rw [HL.out]; exact hin)
                    have y := fun w => (HA (m + (k + 1)) hin w).out
                    obtain ⟨r, hr⟩ : ∃ r, m + (k + 1) = r := ⟨_, rfl⟩
                    rw [hr] at hst hdj y c2 hin
                    have m0 : (r : Int) < s.size := by omega
                    unfold isDig at hdj
                    simp at hdj
                    have d1 : IntKind.u8.wrap (((wd (nat s) r : Nat) : Int) - 48) = ((wd (nat s) r - 48 : Nat) : Int) := by rw [IntWalk.u8_in _ (by omega)]; omega
                    have d2 : IntKind.i64.wrap ((wd (nat s) r - 48 : Nat) : Int) = ((wd (nat s) r - 48 : Nat) : Int) := IntWalk.i64_in _ (by omega)
                    have hd9 : wd (nat s) r - 48 ≤ 9 := by omega
                    generalize wd (nat s) r - 48 = d at *
                    generalize fixN (nat s) m B k = n at *
                    have d3 : IntKind.i64.wrap ((n : Int) * 10) = (n : Int) * 10 := IntWalk.i64_in _ (by omega)
                    have d4 : IntKind.i64.wrap ((n : Int) * 10 + d) = (n : Int) * 10 + d := IntWalk.i64_in _ (by omega)
                    obtain ⟨k1, hk1⟩ : ∃ k1, k + 1 = k1 := ⟨_, rfl⟩
                    rw [hk1] at c1 c2 ⊢
                    clear HA hfrac HFL HST hI hfl hfl2 hp1
                    go_wp2_with fail
                    go_round
                    case rel => exact ⟨k1, by omega, by simp, by rw [← hk1, hst.out]; simp⟩
                    case measure => simp [intOf]; omega
                  · have hst := Lib.hid (show fixN (nat s) m B (k + 1) = fixN (nat s) m B k * 10 by rw [hst.out, if_neg hin, Nat.add_zero])
                    obtain ⟨r, hr⟩ : ∃ r, m + (k + 1) = r := ⟨_, rfl⟩
                    rw [hr] at c2 hin
                    have m0 : ¬ (r : Int) < s.size := by omega
                    generalize fixN (nat s) m B k = n at *
                    have d3 : IntKind.i64.wrap ((n : Int) * 10) = (n : Int) * 10 := IntWalk.i64_in _ (by omega)
                    obtain ⟨k1, hk1⟩ : ∃ k1, k + 1 = k1 := ⟨_, rfl⟩
                    rw [hk1] at c1 c2 ⊢
                    clear HA hfrac HFL HST hI hfl hfl2 hp1
                    go_wp2_with fail
                    go_round
                    case rel => exact ⟨k1, by omega, by simp, by rw [← hk1, hst.out]; simp⟩
                    case measure => simp [intOf]; omega
                · obtain rfl : k = P := by omega
                  have c1 : ¬ ((k + 1 : Nat) : Int) ≤ k := by omega
                  have hfl := (HFL k).out
                  have hp1 : 10 ^ (9 + k) ≤ 10 ^ 18 := Nat.pow_le_pow_right (by omega) (by omega)
                  generalize fixN (nat s) m B k = n at *
                  have d3 : IntKind.i64.wrap (-(n : Int)) = -(n : Int) := IntWalk.i64_in _ (by omega)
                  generalize k + 1 = k1 at *
                  clear HA hfrac HFL HST hfl hp1
                  go_wp2_with fail
                  go_ret2
                  exact ⟨by rw [hI.out]; rfl, rfl⟩

theorem ref09_Fixed (s : ByteArray) (places : Int) (w : World) (hs : s.size ≤ 2000) (hp : -9223372036854775808 ≤ places ∧ places ≤ 9223372036854775807) :
    Calls Tryz.prog 87 #[.string s, .int .i64 places] w fun e w' => e = .returned (.tuple #[.int .i64 (fixedOf (nat s) places).1, .int .i64 ((fixedOf (nat s) places).2 : Nat)]) ∧ w = w' := by
  have HR := Lib.hid (ref09_read s w hs)
  by_cases hr : readE (nat s) = 0
  · by_cases hc : 0 ≤ places ∧ places ≤ 9
    · obtain ⟨P, rfl⟩ : ∃ P : Nat, places = P := ⟨places.toNat, by omega⟩
      rw [fixed_body (nat s) P hr (by omega)]
      unfold fromOf
      by_cases h45 : wd (nat s) 0 = 45
      · rw [if_pos h45]; exact ref09_Fixed1 s P w hs (by omega) hr h45
      · rw [if_neg h45]; exact ref09_Fixed0 s P w hs (by omega) hr h45
    · have hI : fixedOf (nat s) places = (0, 2) := by unfold fixedOf; rw [if_neg (by omega), if_pos (by omega)]
      rw [hI]
      rw [hr] at HR
      have hcase : places < 0 ∨ (¬ places < 0 ∧ 9 < places) := by omega
      clear hI hr hc
      rcases hcase with h | ⟨h, h'⟩
      all_goals
        go_enter Tryz.func87, Tryz.ntmps87
        go_wp2_with (go_at_call 102; refine HR.out.mono ?_; rintro e w1 ⟨rfl, rfl⟩)
        go_ret2
        exact ⟨rfl, rfl⟩
  · have hI : fixedOf (nat s) places = (0, readE (nat s)) := by unfold fixedOf; rw [if_pos hr]
    rw [hI]
    have hr9 := readE_le (nat s)
    have r0 : ¬ (readE (nat s) : Int) = 0 := by omega
    have r1 : ((readE (nat s) : Int) == 0) = false := by simpa using r0
    clear hI hr
    generalize readE (nat s) = r at *
    go_enter Tryz.func87, Tryz.ntmps87
    go_wp2_with (go_at_call 102; refine HR.out.mono ?_; rintro e w1 ⟨rfl, rfl⟩)
    go_ret2
    exact ⟨rfl, rfl⟩
/- The document's fields: times, dates, one of some bytes. -/
set_option maxHeartbeats 1000000 in
theorem ref09_two (s : ByteArray) (i : Nat) (w : World) (hs : s.size ≤ 2000) (hi : i + 1 < s.size) (h1 : isDig (wd (nat s) i) = true) (h2 : isDig (wd (nat s) (i + 1)) = true) :
    Calls Tryz.prog 104 #[.string s, .int .i64 (i : Nat)] w fun e w' => e = .returned (.int .i64 (twoOf (nat s) i : Nat)) ∧ Grew w w' := by
  have y0 := fun w => str_at s i (by omega) w
  have y1 := fun w => str_at s (i + 1) hi w
  have e1 : IntKind.i64.wrap ((i : Int) + 1) = ((i + 1 : Nat) : Int) := by rw [IntWalk.i64_in _ (by omega)]; omega
  have hT : Hid (twoOf (nat s) i = 10 * (wd (nat s) i - 48) + (wd (nat s) (i + 1) - 48)) := rfl
  unfold isDig at h1 h2
  simp at h1 h2
  have m0 : (0 : Int) ≤ i := by omega
  have m1 : (i : Int) < s.size := by omega
  have m2 : ((i + 1 : Nat) : Int) < s.size := by omega
  have m3 : (0 : Int) ≤ ((i + 1 : Nat) : Int) := by omega
  generalize i + 1 = j at *
  generalize wd (nat s) i = a at *
  generalize wd (nat s) j = b at *
  have d1 : IntKind.u8.wrap ((a : Int) - 48) = ((a - 48 : Nat) : Int) := by rw [IntWalk.u8_in _ (by omega)]; omega
  have d2 : IntKind.u8.wrap ((b : Int) - 48) = ((b - 48 : Nat) : Int) := by rw [IntWalk.u8_in _ (by omega)]; omega
  have ha : a - 48 ≤ 9 := by omega
  have hb : b - 48 ≤ 9 := by omega
  generalize a - 48 = p at *
  generalize b - 48 = q at *
  have d3 : IntKind.i64.wrap (p : Int) = p := IntWalk.i64_in _ (by omega)
  have d4 : IntKind.i64.wrap (q : Int) = q := IntWalk.i64_in _ (by omega)
  have d5 : IntKind.i64.wrap (10 * (p : Int)) = 10 * p := IntWalk.i64_in _ (by omega)
  have d6 : IntKind.i64.wrap (10 * (p : Int) + q) = 10 * p + q := IntWalk.i64_in _ (by omega)
  go_enter Tryz.func104, Tryz.ntmps104
  go_wp2_with fail
  go_quiet (fail)
  go_wp2_with fail
  go_ret
  exact ⟨by rw [hT.out]; simp, by repeat (first | (with_reducible exact Grew.refl _) | (with_reducible refine Grew.drewN ?_ _) | (with_reducible refine Grew.drew ?_))⟩

/-- A variable of four cells. -/
structure FourAt (w : World) (b : Nat) (x0 x1 x2 x3 : Value) : Prop where
  lt : b < w.heap.size
  c0 : w.cell? ⟨b, 0, none⟩ = some x0
  c1 : w.cell? ⟨b, 1, none⟩ = some x1
  c2 : w.cell? ⟨b, 2, none⟩ = some x2
  c3 : w.cell? ⟨b, 3, none⟩ = some x3
  f0 : w.frozen? ⟨b, 0, none⟩ = false
  f1 : w.frozen? ⟨b, 1, none⟩ = false
  f2 : w.frozen? ⟨b, 2, none⟩ = false
  f3 : w.frozen? ⟨b, 3, none⟩ = false
section
variable {w w' : World} {b c : Nat} {x0 x1 x2 x3 : Value}
theorem FourAt.new (w : World) (x0 x1 x2 x3 : Value) (E : TypeId) : FourAt (w.alloc (.cells #[x0, x1, x2, x3] E)) w.heap.size x0 x1 x2 x3 := by
  refine ⟨by simp, ?_, ?_, ?_, ?_, ?_, ?_, ?_, ?_⟩ <;> simp [go_sem]
theorem FourAt.grew (h : FourAt w b x0 x1 x2 x3) (g : Grew w w') : FourAt w' b x0 x1 x2 x3 :=
  ⟨Nat.lt_of_lt_of_le h.lt g.size, (g.cell (p := ⟨b, 0, none⟩) h.lt).trans h.c0, (g.cell (p := ⟨b, 1, none⟩) h.lt).trans h.c1, (g.cell (p := ⟨b, 2, none⟩) h.lt).trans h.c2, (g.cell (p := ⟨b, 3, none⟩) h.lt).trans h.c3,
   (g.frozen (p := ⟨b, 0, none⟩) h.lt).trans h.f0, (g.frozen (p := ⟨b, 1, none⟩) h.lt).trans h.f1, (g.frozen (p := ⟨b, 2, none⟩) h.lt).trans h.f2, (g.frozen (p := ⟨b, 3, none⟩) h.lt).trans h.f3⟩
theorem cell_ne4 {i j : Nat} (h : i ≠ j) : (⟨b, i, none⟩ : Addr) ≠ ⟨b, j, none⟩ := fun e => h (by injection e)
theorem FourAt.set3 (h : FourAt w b x0 x1 x2 x3) (y : Value) : FourAt (w.setCell ⟨b, 3, none⟩ y) b x0 x1 x2 y :=
  ⟨by simpa [World.setCell] using h.lt, (World.cell?_setCell_other _ _ _ _ (cell_ne4 (by omega))).trans h.c0, (World.cell?_setCell_other _ _ _ _ (cell_ne4 (by omega))).trans h.c1, (World.cell?_setCell_other _ _ _ _ (cell_ne4 (by omega))).trans h.c2, World.cell?_setCell_same _ _ _ h.c3,
   by simpa using h.f0, by simpa using h.f1, by simpa using h.f2, by simpa using h.f3⟩
theorem FourAt.set0 (h : FourAt w b x0 x1 x2 x3) (y : Value) : FourAt (w.setCell ⟨b, 0, none⟩ y) b y x1 x2 x3 :=
  ⟨by simpa [World.setCell] using h.lt, World.cell?_setCell_same _ _ _ h.c0, (World.cell?_setCell_other _ _ _ _ (cell_ne4 (by omega))).trans h.c1, (World.cell?_setCell_other _ _ _ _ (cell_ne4 (by omega))).trans h.c2, (World.cell?_setCell_other _ _ _ _ (cell_ne4 (by omega))).trans h.c3,
   by simpa using h.f0, by simpa using h.f1, by simpa using h.f2, by simpa using h.f3⟩
theorem FourAt.set1 (h : FourAt w b x0 x1 x2 x3) (y : Value) : FourAt (w.setCell ⟨b, 1, none⟩ y) b x0 y x2 x3 :=
  ⟨by simpa [World.setCell] using h.lt, (World.cell?_setCell_other _ _ _ _ (cell_ne4 (by omega))).trans h.c0, World.cell?_setCell_same _ _ _ h.c1, (World.cell?_setCell_other _ _ _ _ (cell_ne4 (by omega))).trans h.c2, (World.cell?_setCell_other _ _ _ _ (cell_ne4 (by omega))).trans h.c3,
   by simpa using h.f0, by simpa using h.f1, by simpa using h.f2, by simpa using h.f3⟩
theorem FourAt.set2 (h : FourAt w b x0 x1 x2 x3) (y : Value) : FourAt (w.setCell ⟨b, 2, none⟩ y) b x0 x1 y x3 :=
  ⟨by simpa [World.setCell] using h.lt, (World.cell?_setCell_other _ _ _ _ (cell_ne4 (by omega))).trans h.c0, (World.cell?_setCell_other _ _ _ _ (cell_ne4 (by omega))).trans h.c1, World.cell?_setCell_same _ _ _ h.c2, (World.cell?_setCell_other _ _ _ _ (cell_ne4 (by omega))).trans h.c3,
   by simpa using h.f0, by simpa using h.f1, by simpa using h.f2, by simpa using h.f3⟩
theorem FourAt.other (h : FourAt w b x0 x1 x2 x3) (hne : b ≠ c) (i : Nat) (y : Value) : FourAt (w.setCell ⟨c, i, none⟩ y) b x0 x1 x2 x3 := by
  have ne : ∀ {i j : Nat}, (⟨c, i, none⟩ : Addr) ≠ ⟨b, j, none⟩ := fun e => hne (by injection e with e; exact e.symm)
  exact ⟨by simpa [World.setCell] using h.lt, (World.cell?_setCell_other _ _ _ _ ne).trans h.c0, (World.cell?_setCell_other _ _ _ _ ne).trans h.c1, (World.cell?_setCell_other _ _ _ _ ne).trans h.c2, (World.cell?_setCell_other _ _ _ _ ne).trans h.c3,
   by simpa using h.f0, by simpa using h.f1, by simpa using h.f2, by simpa using h.f3⟩
end
def fourSet (w : World) (b : Nat) (y0 y1 y2 y3 : Value) : World := (((w.setCell ⟨b, 0, none⟩ y0).setCell ⟨b, 1, none⟩ y1).setCell ⟨b, 2, none⟩ y2).setCell ⟨b, 3, none⟩ y3
theorem FourAt.all {w : World} {b : Nat} {x0 x1 x2 x3 : Value} (h : FourAt w b x0 x1 x2 x3) (y0 y1 y2 y3 : Value) : FourAt (fourSet w b y0 y1 y2 y3) b y0 y1 y2 y3 := (((h.set0 y0).set1 y1).set2 y2).set3 y3
theorem Grew.four {w w' : World} (g : Grew w w') (b : Nat) (hb : w.heap.size ≤ b) (y0 y1 y2 y3 : Value) : Grew w (fourSet w' b y0 y1 y2 y3) := (((g.setCell (p := ⟨b, 0, none⟩) hb _).setCell (p := ⟨b, 1, none⟩) hb _).setCell (p := ⟨b, 2, none⟩) hb _).setCell (p := ⟨b, 3, none⟩) hb _
theorem clockW (w : World) (E1 E2 : TypeId) : ∃ W, (w.alloc (.cells #[.int .i64 0, .int .i64 0, .int .i64 0, .bool false] E1)).alloc (.cells #[.int .i64 0, .int .i64 0, .int .i64 0, .bool false] E2) = W ∧ Grew w W ∧ FourAt W w.heap.size (.int .i64 0) (.int .i64 0) (.int .i64 0) (.bool false) ∧ FourAt W (w.heap.size + 1) (.int .i64 0) (.int .i64 0) (.int .i64 0) (.bool false) := by
  have h := FourAt.new (w.alloc (.cells #[.int .i64 0, .int .i64 0, .int .i64 0, .bool false] E1)) (.int .i64 0) (.int .i64 0) (.int .i64 0) (.bool false) E2
  rw [World.size_alloc] at h
  exact ⟨_, rfl, ((Grew.refl w).alloc _).alloc _, (FourAt.new w _ _ _ _ _).grew ((Grew.refl _).alloc _), h⟩

theorem all_more (S : List Nat) (p : Nat → Bool) (m : Nat) (hm : 7 ≤ m) (hl : m < S.length) : ((S.drop 7).take (m + 1 - 7)).all p = (((S.drop 7).take (m - 7)).all p && p (wd S m)) := by
  rw [show m + 1 - 7 = (m - 7) + 1 by omega, List.take_add_one, List.all_append, List.getElem?_drop, show 7 + (m - 7) = m by omega, List.getElem?_eq_getElem hl, wd_lt hl]
  simp
/-- A time of day, as it is told. -/
def dayVal (c : (Nat × Nat × Nat × Bool) × Nat) : Value := .tuple #[.agg #[.int .i64 (c.1.1 : Nat), .int .i64 (c.1.2.1 : Nat), .int .i64 (c.1.2.2.1 : Nat), .bool c.1.2.2.2], .int .i64 (c.2 : Nat)]
set_option maxRecDepth 100000 in
set_option maxHeartbeats 1000000 in
theorem ref09_Clock (s : ByteArray) (w : World) (hs : s.size ≤ 2000) :
    Calls Tryz.prog 100 #[.string s] w fun e w' => e = .returned (dayVal (clockOf (nat s))) ∧ Grew w w' := by
  have hl := nat_length s
  have HR := fun w => Lib.hid (ref09_read s w hs)
  have HPT := fun w => Lib.hid (ref09_point s w hs)
  have hpl := pointOf_le (nat s)
  have HW := Lib.hid (clockW w 40 40)
  rw [hl] at hpl
  by_cases hr : readE (nat s) = 0
  · have hz := readE_zero hr
    have hB : Hid (clockOf (nat s) = if pointOf (nat s) ≠ 6 ∨ digs (nat s) 0 6 = false ∨ (6 < s.size ∧ digs (nat s) 7 s.size = false) then ((0, 0, 0, false), 5)
      else if 23 < twoOf (nat s) 0 ∨ 59 < twoOf (nat s) 2 ∨ 60 < twoOf (nat s) 4 then ((0, 0, 0, false), 5)
      else ((twoOf (nat s) 0, twoOf (nat s) 2, twoOf (nat s) 4, ((nat s).drop 7).all (fun b => b == 48)), 0)) := by show _ = _; unfold clockOf; rw [if_neg (by omega), hl]
    rw [hr] at HR
    by_cases hp6 : pointOf (nat s) ≠ 6
    · have hI : Hid (clockOf (nat s) = ((0, 0, 0, false), 5)) := by show _ = _; rw [hB.out, if_pos (.inl hp6)]
      have p1 : ¬ ((pointOf (nat s) : Nat) : Int) = 6 := by omega
      have p2 : (((pointOf (nat s) : Nat) : Int) == 6) = false := by simpa using p1
      clear hB hl hr hp6
      generalize pointOf (nat s) = p at *
      go_enter Tryz.func100, Tryz.ntmps100
      go_upto_region 2 with fail
      obtain ⟨W, hW, gW, hA, hC⟩ := HW.out
      rw [hW]
      have HA := Lib.hid hA
      have HC := Lib.hid hC
      have HG := Lib.hid gW
      clear hW HW hA hC gW
      obtain ⟨a, a0, a1, a2, a3, a4, a5, a6, a7⟩ := HA.out
      obtain ⟨c, c0, c1, c2, c3, c4, c5, c6, c7⟩ := HC.out
      go_wp2_with (first | (go_at_call 102; refine (HR _).out.mono ?_; rintro e w1 ⟨rfl, rfl⟩) | (go_at_call 106; refine (HPT _).out.mono ?_; rintro e w1 ⟨rfl, rfl⟩))
      refine bodyPost_ret (by simp [results, Tryz.results100, go_sem, a0, a1, a2, a3]; try rfl) rfl ?_
      exact ⟨by rw [hI.out]; rfl, HG.out.four _ (Nat.le_refl _) _ _ _ _⟩

    · have hp6 : pointOf (nat s) = 6 := by omega
      rw [hp6] at HPT
      have HD : ∀ w, Hid (Calls Tryz.prog 103 #[.string s, .int .i64 0, .int .i64 6] w fun e w' => e = .returned (.bool (digs (nat s) 0 6)) ∧ w = w') := fun w => ref09_Digits s 0 6 w hs (by omega) (by omega)
      cases hd : digs (nat s) 0 6
      · have hI : Hid (clockOf (nat s) = ((0, 0, 0, false), 5)) := by show _ = _; rw [hB.out, if_pos (.inr (.inl hd))]
        rw [hd] at HD
        have HD7 := HD
        clear hB hd hl hr hp6 hpl
        go_enter Tryz.func100, Tryz.ntmps100
        go_upto_region 2 with fail
        obtain ⟨W, hW, gW, hA, hC⟩ := HW.out
        rw [hW]
        have HA := Lib.hid hA
        have HC := Lib.hid hC
        have HG := Lib.hid gW
        clear hW HW hA hC gW
        obtain ⟨a, a0, a1, a2, a3, a4, a5, a6, a7⟩ := HA.out
        obtain ⟨c, c0, c1, c2, c3, c4, c5, c6, c7⟩ := HC.out
        go_wp2_with (first | (go_at_call 102; refine (HR _).out.mono ?_; rintro e w1 ⟨rfl, rfl⟩) | (go_at_call 106; refine (HPT _).out.mono ?_; rintro e w1 ⟨rfl, rfl⟩) | (go_at_call 103; first | (with_reducible refine (HD _).out.mono ?_; rintro e w1 ⟨rfl, rfl⟩) | (with_reducible refine (HD7 _).out.mono ?_; rintro e w1 ⟨rfl, rfl⟩)))
        refine bodyPost_ret (by simp [results, Tryz.results100, go_sem, a0, a1, a2, a3]; try rfl) rfl ?_
        exact ⟨by rw [hI.out]; rfl, HG.out.four _ (Nat.le_refl _) _ _ _ _⟩

      · rw [hd] at HD
        have hdig := digs_all (S := nat s) (by omega) hd
        by_cases hb2 : 6 < s.size ∧ digs (nat s) 7 s.size = false
        · have hI : Hid (clockOf (nat s) = ((0, 0, 0, false), 5)) := by show _ = _; rw [hB.out, if_pos (.inr (.inr hb2))]
          have HD7 : ∀ w, Hid (Calls Tryz.prog 103 #[.string s, .int .i64 7, .int .i64 (s.size : Nat)] w fun e w' => e = .returned (.bool (digs (nat s) 7 s.size)) ∧ w = w') := fun w => ref09_Digits s 7 s.size w hs (by omega) (Nat.le_refl _)
          rw [hb2.2] at HD7
          have p1 : (6 : Int) < s.size := by omega
          clear hB hd hl hr hp6 hpl hb2 hdig
          go_enter Tryz.func100, Tryz.ntmps100
          go_upto_region 2 with fail
          obtain ⟨W, hW, gW, hA, hC⟩ := HW.out
          rw [hW]
          have HA := Lib.hid hA
          have HC := Lib.hid hC
          have HG := Lib.hid gW
          clear hW HW hA hC gW
          obtain ⟨a, a0, a1, a2, a3, a4, a5, a6, a7⟩ := HA.out
          obtain ⟨c, c0, c1, c2, c3, c4, c5, c6, c7⟩ := HC.out
          go_wp2_with (first | (go_at_call 102; refine (HR _).out.mono ?_; rintro e w1 ⟨rfl, rfl⟩) | (go_at_call 106; refine (HPT _).out.mono ?_; rintro e w1 ⟨rfl, rfl⟩) | (go_at_call 103; first | (with_reducible refine (HD _).out.mono ?_; rintro e w1 ⟨rfl, rfl⟩) | (with_reducible refine (HD7 _).out.mono ?_; rintro e w1 ⟨rfl, rfl⟩)))
          refine bodyPost_ret (by simp [results, Tryz.results100, go_sem, a0, a1, a2, a3]; try rfl) rfl ?_
          exact ⟨by rw [hI.out]; rfl, HG.out.four _ (Nat.le_refl _) _ _ _ _⟩

        · have hB2 : Hid (clockOf (nat s) = if 23 < twoOf (nat s) 0 ∨ 59 < twoOf (nat s) 2 ∨ 60 < twoOf (nat s) 4 then ((0, 0, 0, false), 5)
            else ((twoOf (nat s) 0, twoOf (nat s) 2, twoOf (nat s) 4, ((nat s).drop 7).all (fun b => b == 48)), 0)) := by show _ = _; rw [hB.out, if_neg (fun h => by rcases h with h | h | h; exact h hp6; rw [hd] at h; cases h; exact hb2 h)]
          have HD7 : 6 < s.size → ∀ w, Hid (Calls Tryz.prog 103 #[.string s, .int .i64 7, .int .i64 (s.size : Nat)] w fun e w' => e = .returned (.bool true) ∧ w = w') := fun h w => by
            have := ref09_Digits s 7 s.size w hs (by omega) (Nat.le_refl _)
            have hb3 : digs (nat s) 7 s.size = true := by cases hq : digs (nat s) 7 s.size; exact absurd ⟨h, hq⟩ hb2; rfl
            rwa [hb3] at this
          have hsz : 6 ≤ s.size := by omega
          have D : ∀ i, i < 6 → isDig (wd (nat s) i) = true := fun i hi => hdig i (by omega) hi
          have HT0 : ∀ w, Hid (Calls Tryz.prog 104 #[.string s, .int .i64 0] w fun e w' => e = .returned (.int .i64 (twoOf (nat s) 0 : Nat)) ∧ Grew w w') := fun w => ref09_two s 0 w hs (by omega) (D 0 (by omega)) (D 1 (by omega))
          have HT2 : ∀ w, Hid (Calls Tryz.prog 104 #[.string s, .int .i64 2] w fun e w' => e = .returned (.int .i64 (twoOf (nat s) 2 : Nat)) ∧ Grew w w') := fun w => ref09_two s 2 w hs (by omega) (D 2 (by omega)) (D 3 (by omega))
          have HT4 : ∀ w, Hid (Calls Tryz.prog 104 #[.string s, .int .i64 4] w fun e w' => e = .returned (.int .i64 (twoOf (nat s) 4 : Nat)) ∧ Grew w w') := fun w => ref09_two s 4 w hs (by omega) (D 4 (by omega)) (D 5 (by omega))
          have l0 := two_lt (nat s) 0 (D 0 (by omega)) (D 1 (by omega))
          have l2 := two_lt (nat s) 2 (D 2 (by omega)) (D 3 (by omega))
          have l4 := two_lt (nat s) 4 (D 4 (by omega)) (D 5 (by omega))
          have HY := fun j h w => Lib.hid (str_at s j h w)
          have HL := Lib.hid hl
          generalize twoOf (nat s) 0 = T0 at *
          generalize twoOf (nat s) 2 = T2 at *
          generalize twoOf (nat s) 4 = T4 at *
          clear hB hd hl hr hp6 hpl hb2 hdig D
          go_enter Tryz.func100, Tryz.ntmps100
          go_upto_region 2 with fail
          obtain ⟨W, hW, gW, hA, hC⟩ := HW.out
          rw [hW]
          have HA := Lib.hid hA
          have HC := Lib.hid hC
          have HG := Lib.hid gW
          clear hW HW hA hC gW
          go_upto_region 6 with (first | (go_at_call 102; refine (HR _).out.mono ?_; rintro e w1 ⟨rfl, rfl⟩) | (go_at_call 106; refine (HPT _).out.mono ?_; rintro e w1 ⟨rfl, rfl⟩))
          go_cut [36] (fun q wx => q = .bool false ∧ W = wx)
          case first =>
            by_cases hps : 6 < s.size
            · have HD8 := HD7 hps
              have p1 : (6 : Int) < s.size := by omega
              clear HD7 hB2 HY HT0 HT2 HT4
              go_wp2_with (go_at_call 103; first | (with_reducible refine (HD _).out.mono ?_; rintro e w1 ⟨rfl, rfl⟩) | (with_reducible refine (HD8 _).out.mono ?_; rintro e w1 ⟨rfl, rfl⟩))
              all_goals go_meet
              all_goals exact ⟨by first | rfl | (simp; omega), rfl⟩
            · have p1 : ¬ (6 : Int) < s.size := by omega
              clear HD7 hB2 HY HT0 HT2 HT4
              go_wp2_with (go_at_call 103; refine (HD _).out.mono ?_; rintro e w1 ⟨rfl, rfl⟩)
              all_goals go_meet
              all_goals exact ⟨by first | rfl | (simp; omega), rfl⟩
          case rest =>
            obtain ⟨rfl, rfl⟩ := hcut
            clear HD7 HR HPT HD
            by_cases hbad : 23 < T0 ∨ 59 < T2 ∨ 60 < T4
            · have hI : Hid (clockOf (nat s) = ((0, 0, 0, false), 5)) := by show _ = _; rw [hB2.out, if_pos hbad]
              have hcase : 23 < T0 ∨ (¬ 23 < T0 ∧ 59 < T2) ∨ (¬ 23 < T0 ∧ ¬ 59 < T2 ∧ 60 < T4) := by omega
              clear hB2 hbad HY
              rcases hcase with h | ⟨h, h'⟩ | ⟨h, h', h''⟩
              · have z1 : (23 : Int) < T0 := by omega
                go_upto_region 9 with (first | (go_at_call 104; (first | (with_reducible refine (HT0 _).out.mono ?_) | (with_reducible refine (HT2 _).out.mono ?_) | (with_reducible refine (HT4 _).out.mono ?_)); rintro e w1 ⟨rfl, g1⟩; replace HA := Lib.hid (HA.out.grew g1); replace HC := Lib.hid (HC.out.grew g1); replace HG := Lib.hid (HG.out.trans g1); clear g1))
                obtain ⟨a, a0, a1, a2, a3, a4, a5, a6, a7⟩ := HA.out
                obtain ⟨c, c0, c1, c2, c3, c4, c5, c6, c7⟩ := HC.out
                go_wp2_with fail
                refine bodyPost_ret (by simp [results, Tryz.results100, go_sem, a0, a1, a2, a3]; try rfl) rfl ?_
                exact ⟨by rw [hI.out]; rfl, HG.out.four _ (Nat.le_refl _) _ _ _ _⟩
              · have z1 : ¬ (23 : Int) < T0 := by omega
                have z2 : (59 : Int) < T2 := by omega
                go_upto_region 9 with (first | (go_at_call 104; (first | (with_reducible refine (HT0 _).out.mono ?_) | (with_reducible refine (HT2 _).out.mono ?_) | (with_reducible refine (HT4 _).out.mono ?_)); rintro e w1 ⟨rfl, g1⟩; replace HA := Lib.hid (HA.out.grew g1); replace HC := Lib.hid (HC.out.grew g1); replace HG := Lib.hid (HG.out.trans g1); clear g1))
                obtain ⟨a, a0, a1, a2, a3, a4, a5, a6, a7⟩ := HA.out
                obtain ⟨c, c0, c1, c2, c3, c4, c5, c6, c7⟩ := HC.out
                go_wp2_with fail
                refine bodyPost_ret (by simp [results, Tryz.results100, go_sem, a0, a1, a2, a3]; try rfl) rfl ?_
                exact ⟨by rw [hI.out]; rfl, HG.out.four _ (Nat.le_refl _) _ _ _ _⟩
              · have z1 : ¬ (23 : Int) < T0 := by omega
                have z2 : ¬ (59 : Int) < T2 := by omega
                have z3 : (60 : Int) < T4 := by omega
                go_upto_region 9 with (first | (go_at_call 104; (first | (with_reducible refine (HT0 _).out.mono ?_) | (with_reducible refine (HT2 _).out.mono ?_) | (with_reducible refine (HT4 _).out.mono ?_)); rintro e w1 ⟨rfl, g1⟩; replace HA := Lib.hid (HA.out.grew g1); replace HC := Lib.hid (HC.out.grew g1); replace HG := Lib.hid (HG.out.trans g1); clear g1))
                obtain ⟨a, a0, a1, a2, a3, a4, a5, a6, a7⟩ := HA.out
                obtain ⟨c, c0, c1, c2, c3, c4, c5, c6, c7⟩ := HC.out
                go_wp2_with fail
                refine bodyPost_ret (by simp [results, Tryz.results100, go_sem, a0, a1, a2, a3]; try rfl) rfl ?_
                exact ⟨by rw [hI.out]; rfl, HG.out.four _ (Nat.le_refl _) _ _ _ _⟩
            · have hI : Hid (clockOf (nat s) = ((T0, T2, T4, ((nat s).drop 7).all (fun b => b == 48)), 0)) := by show _ = _; rw [hB2.out, if_neg hbad]
              have z1 : ¬ (23 : Int) < T0 := by omega
              have z2 : ¬ (59 : Int) < T2 := by omega
              have z3 : ¬ (60 : Int) < T4 := by omega
              clear hB2 hbad
              go_upto_region 10 with (first | (go_at_call 104; (first | (with_reducible refine (HT0 _).out.mono ?_) | (with_reducible refine (HT2 _).out.mono ?_) | (with_reducible refine (HT4 _).out.mono ?_)); rintro e w1 ⟨rfl, g1⟩; replace HA := Lib.hid (HA.out.grew g1); replace HC := Lib.hid (HC.out.grew g1); replace HG := Lib.hid (HG.out.trans g1); clear g1))
              go_upto_region 11 with (first | (go_at_call 104; with_reducible refine (HT4 _).out.mono ?_; rintro e w1 ⟨rfl, g1⟩; replace HA := Lib.hid (HA.out.grew g1); replace HC := Lib.hid (HC.out.grew g1); replace HG := Lib.hid (HG.out.trans g1); clear g1; obtain ⟨c, c0, c1, c2, c3, c4, c5, c6, c7⟩ := HC.out) | (go_at_call 104; (first | (with_reducible refine (HT0 _).out.mono ?_) | (with_reducible refine (HT2 _).out.mono ?_) | (with_reducible refine (HT4 _).out.mono ?_)); rintro e w1 ⟨rfl, g1⟩; replace HA := Lib.hid (HA.out.grew g1); replace HC := Lib.hid (HC.out.grew g1); replace HG := Lib.hid (HG.out.trans g1); clear g1))
              have HC2 := Lib.hid (HC.out.all (.int .i64 (T0 : Nat)) (.int .i64 (T2 : Nat)) (.int .i64 (T4 : Nat)) (.bool true))
              have HA2 := Lib.hid ((((HA.out.other (c := w.heap.size + 1) (by omega) 0 (.int .i64 (T0 : Nat))).other (c := w.heap.size + 1) (by omega) 1 (.int .i64 (T2 : Nat))).other (c := w.heap.size + 1) (by omega) 2 (.int .i64 (T4 : Nat))).other (c := w.heap.size + 1) (by omega) 3 (.bool true))
              have HG2 := Lib.hid (HG.out.four (w.heap.size + 1) (by omega) (.int .i64 (T0 : Nat)) (.int .i64 (T2 : Nat)) (.int .i64 (T4 : Nat)) (.bool true))
              unfold fourSet at HC2 HG2
              clear HT0 HT2 HT4 HA HC HG c c0 c1 c2 c3 c4 c5 c6 c7
              go_wp2_with fail
              go_loopw [7] (fun i wr => ∃ (m : Nat) (x : Bool), 7 ≤ m ∧ m ≤ s.size + 1 ∧ i = .int .i64 (m : Nat) ∧ Hid (x = (((nat s).drop 7).take (m - 7)).all (fun b => b == 48)) ∧ Hid (FourAt wr (w.heap.size + 1) (.int .i64 (T0 : Nat)) (.int .i64 (T2 : Nat)) (.int .i64 (T4 : Nat)) (.bool x)) ∧ Hid (FourAt wr w.heap.size (.int .i64 0) (.int .i64 0) (.int .i64 0) (.bool false)) ∧ Hid (Grew w wr)) (fun i _ => s.size + 1 - (intOf i).toNat)
              case atStart => exact ⟨7, true, by omega, by omega, rfl, by show _ = _; simp, HC2.out, HA2.out, HG2.out⟩
              case round =>
                clear HC2 HA2 HG2
                obtain ⟨m, x, hm, hm2, rfl, hX, HC, HA, HG⟩ := hrel
                obtain ⟨c, c0, c1, c2, c3, c4, c5, c6, c7⟩ := HC.out
                by_cases hlt : m < s.size
                · have y := fun w => (HY m hlt w).out
                  have m0 : (m : Int) < s.size := by omega
                  have hst := Lib.hid (all_more (nat s) (fun b => b == 48) m hm (by rw [HL.out]; exact hlt))
                  cases x
                  · have hX2 : Hid (false = (((nat s).drop 7).take (m + 1 - 7)).all (fun b => b == 48)) := by show _ = _; rw [hst.out, ← hX.out]; rfl
                    have HC2 := Lib.hid (HC.out.set3 (.bool false))
                    have HA2 := Lib.hid (HA.out.other (c := w.heap.size + 1) (by omega) 3 (.bool false))
                    have HG2 := Lib.hid (HG.out.setCell (p := ⟨w.heap.size + 1, 3, none⟩) (by simp only; omega) (.bool false))
                    clear hX hst HY hI HC HA HG
                    go_wp2_with fail
                    go_roundw
                    case rel => exact ⟨m + 1, false, by omega, by omega, by simp, hX2, HC2, HA2, HG2⟩
                    case measure => simp [intOf]; omega
                  · by_cases h48 : wd (nat s) m = 48
                    · have hX2 : Hid (true = (((nat s).drop 7).take (m + 1 - 7)).all (fun b => b == 48)) := by show _ = _; rw [hst.out, ← hX.out, h48]; rfl
                      have HC2 := Lib.hid (HC.out.set3 (.bool true))
                      have HA2 := Lib.hid (HA.out.other (c := w.heap.size + 1) (by omega) 3 (.bool true))
                      have HG2 := Lib.hid (HG.out.setCell (p := ⟨w.heap.size + 1, 3, none⟩) (by simp only; omega) (.bool true))
                      rw [h48] at y
                      clear hX hst HY hI HC HA HG h48
                      go_wp2_with fail
                      go_roundw
                      case rel => exact ⟨m + 1, true, by omega, by omega, by simp, hX2, HC2, HA2, HG2⟩
                      case measure => simp [intOf]; omega
                    · have hX2 : Hid (false = (((nat s).drop 7).take (m + 1 - 7)).all (fun b => b == 48)) := by show _ = _; rw [hst.out, ← hX.out]; simpa using h48
                      have HC2 := Lib.hid (HC.out.set3 (.bool false))
                      have HA2 := Lib.hid (HA.out.other (c := w.heap.size + 1) (by omega) 3 (.bool false))
                      have HG2 := Lib.hid (HG.out.setCell (p := ⟨w.heap.size + 1, 3, none⟩) (by simp only; omega) (.bool false))
                      have h48' : ¬ ((wd (nat s) m : Nat) : Int) = 48 := by omega
                      have h48'' : (((wd (nat s) m : Nat) : Int) == 48) = false := by simpa using h48'
                      clear hX hst HY hI HC HA HG h48
                      generalize wd (nat s) m = cc at *
                      go_wp2_with fail
                      go_roundw
                      case rel => exact ⟨m + 1, false, by omega, by omega, by simp, hX2, HC2, HA2, HG2⟩
                      case measure => simp [intOf]; omega
                · have hX2 : Hid (((nat s).drop 7).all (fun b => b == 48) = x) := by show _ = _; rw [hX.out, List.take_of_length_le (by rw [List.length_drop, HL.out]; omega)]
                  have m0 : ¬ (m : Int) < s.size := by omega
                  obtain ⟨a, a0, a1, a2, a3, a4, a5, a6, a7⟩ := HA.out
                  clear hX HY
                  go_wp2_with fail
                  refine bodyPost_ret (by simp [results, Tryz.results100, go_sem, a0, a1, a2, a3]; try rfl) rfl ?_
                  exact ⟨by rw [hI.out, hX2.out]; rfl, HG.out.four _ (Nat.le_refl _) _ _ _ _⟩
  · have hI : Hid (clockOf (nat s) = ((0, 0, 0, false), readE (nat s))) := by show _ = _; unfold clockOf; rw [if_pos hr]
    have hr9 := readE_le (nat s)
    have r0 : ¬ (readE (nat s) : Int) = 0 := by omega
    have r1 : ((readE (nat s) : Int) == 0) = false := by simpa using r0
    clear hl hr HPT
    generalize readE (nat s) = r at *
    go_enter Tryz.func100, Tryz.ntmps100
    go_upto_region 2 with fail
    obtain ⟨W, hW, gW, hA, hC⟩ := HW.out
    rw [hW]
    obtain ⟨a, a0, a1, a2, a3, a4, a5, a6, a7⟩ := hA
    obtain ⟨c, c0, c1, c2, c3, c4, c5, c6, c7⟩ := hC
    clear hW HW
    go_wp2_with (go_at_call 102; refine (HR _).out.mono ?_; rintro e w1 ⟨rfl, rfl⟩)
    refine bodyPost_ret (by simp [results, Tryz.results100, go_sem, a0, a1, a2, a3]; try rfl) rfl ?_
    exact ⟨by rw [hI.out]; rfl, gW.four _ (Nat.le_refl _) _ _ _ _⟩
/- The document's fields: dates. -/
/-- A date, as it is told. -/
def dateVal (c : (Nat × Nat × Nat) × Nat) : Value := .tuple #[.int .i64 (c.1.1 : Nat), .int .i64 (c.1.2.1 : Nat), .int .i64 (c.1.2.2 : Nat), .int .i64 (c.2 : Nat)]
set_option maxRecDepth 100000 in
set_option maxHeartbeats 1000000 in
theorem ref09_Date (s : ByteArray) (w : World) (hs : s.size ≤ 2000) :
    Calls Tryz.prog 84 #[.string s] w fun e w' => e = .returned (dateVal (dateOf (nat s))) ∧ Grew w w' := by
  have hl := nat_length s
  have HR := fun w => Lib.hid (ref09_read s w hs)
  by_cases hr : readE (nat s) = 0
  · have hB : Hid (dateOf (nat s) = if s.size ≠ 6 ∨ digs (nat s) 0 6 = false ∨ twoOf (nat s) 0 < 1 ∨ 31 < twoOf (nat s) 0 ∨ twoOf (nat s) 2 < 1 ∨ 12 < twoOf (nat s) 2 then ((0, 0, 0), 5) else ((twoOf (nat s) 0, twoOf (nat s) 2, twoOf (nat s) 4), 0)) := by show _ = _; unfold dateOf; rw [if_neg (by omega), hl]
    rw [hr] at HR
    by_cases h6 : s.size ≠ 6
    · have hI : Hid (dateOf (nat s) = ((0, 0, 0), 5)) := by show _ = _; rw [hB.out, if_pos (.inl h6)]
      have p1 : ¬ (s.size : Int) = 6 := by omega
      have p2 : ((s.size : Int) == 6) = false := by simpa using p1
      clear hB hl hr h6
      go_enter Tryz.func84, Tryz.ntmps84
      go_wp2_with (go_at_call 102; refine (HR _).out.mono ?_; rintro e w1 ⟨rfl, rfl⟩)
      refine bodyPost_ret (by simp [results, Tryz.results84, go_sem]; try rfl) rfl ?_
      exact ⟨by rw [hI.out]; rfl, Grew.refl _⟩
    · have h6 : s.size = 6 := by omega
      have HD : ∀ w, Hid (Calls Tryz.prog 103 #[.string s, .int .i64 0, .int .i64 6] w fun e w' => e = .returned (.bool (digs (nat s) 0 6)) ∧ w = w') := fun w => ref09_Digits s 0 6 w hs (by omega) (by omega)
      have p1 : (s.size : Int) = 6 := by omega
      cases hd : digs (nat s) 0 6
      · have hI : Hid (dateOf (nat s) = ((0, 0, 0), 5)) := by show _ = _; rw [hB.out, if_pos (.inr (.inl hd))]
        rw [hd] at HD
        clear hB hl hr hd h6
        go_enter Tryz.func84, Tryz.ntmps84
        go_wp2_with (first | (go_at_call 102; refine (HR _).out.mono ?_; rintro e w1 ⟨rfl, rfl⟩) | (go_at_call 103; refine (HD _).out.mono ?_; rintro e w1 ⟨rfl, rfl⟩))
        refine bodyPost_ret (by simp [results, Tryz.results84, go_sem]; try rfl) rfl ?_
        exact ⟨by rw [hI.out]; rfl, Grew.refl _⟩
      · rw [hd] at HD
        have hdig := digs_all (S := nat s) (by omega) hd
        have D : ∀ i, i < 6 → isDig (wd (nat s) i) = true := fun i hi => hdig i (by omega) hi
        have HT0 : ∀ w, Hid (Calls Tryz.prog 104 #[.string s, .int .i64 0] w fun e w' => e = .returned (.int .i64 (twoOf (nat s) 0 : Nat)) ∧ Grew w w') := fun w => ref09_two s 0 w hs (by omega) (D 0 (by omega)) (D 1 (by omega))
        have HT2 : ∀ w, Hid (Calls Tryz.prog 104 #[.string s, .int .i64 2] w fun e w' => e = .returned (.int .i64 (twoOf (nat s) 2 : Nat)) ∧ Grew w w') := fun w => ref09_two s 2 w hs (by omega) (D 2 (by omega)) (D 3 (by omega))
        have HT4 : ∀ w, Hid (Calls Tryz.prog 104 #[.string s, .int .i64 4] w fun e w' => e = .returned (.int .i64 (twoOf (nat s) 4 : Nat)) ∧ Grew w w') := fun w => ref09_two s 4 w hs (by omega) (D 4 (by omega)) (D 5 (by omega))
        have hB2 : Hid (dateOf (nat s) = if twoOf (nat s) 0 < 1 ∨ 31 < twoOf (nat s) 0 ∨ twoOf (nat s) 2 < 1 ∨ 12 < twoOf (nat s) 2 then ((0, 0, 0), 5) else ((twoOf (nat s) 0, twoOf (nat s) 2, twoOf (nat s) 4), 0)) := by
          show _ = _
          rw [hB.out]
          by_cases hc : twoOf (nat s) 0 < 1 ∨ 31 < twoOf (nat s) 0 ∨ twoOf (nat s) 2 < 1 ∨ 12 < twoOf (nat s) 2
          · rw [if_pos hc, if_pos (.inr (.inr hc))]
          · rw [if_neg hc, if_neg (fun h => by rcases h with h | h | h; exact h h6; rw [hd] at h; cases h; exact hc h)]
        have l0 := two_lt (nat s) 0 (D 0 (by omega)) (D 1 (by omega))
        have l2 := two_lt (nat s) 2 (D 2 (by omega)) (D 3 (by omega))
        have l4 := two_lt (nat s) 4 (D 4 (by omega)) (D 5 (by omega))
        generalize twoOf (nat s) 0 = T0 at *
        generalize twoOf (nat s) 2 = T2 at *
        generalize twoOf (nat s) 4 = T4 at *
        have G := Lib.hid (Grew.refl w)
        clear hB hl hr hd hdig D h6
        by_cases hbad : T0 < 1 ∨ 31 < T0 ∨ T2 < 1 ∨ 12 < T2
        · have hI : Hid (dateOf (nat s) = ((0, 0, 0), 5)) := by show _ = _; rw [hB2.out, if_pos hbad]
          have hcase : T0 < 1 ∨ (¬ T0 < 1 ∧ 31 < T0) ∨ (¬ T0 < 1 ∧ ¬ 31 < T0 ∧ T2 < 1) ∨ (¬ T0 < 1 ∧ ¬ 31 < T0 ∧ ¬ T2 < 1 ∧ 12 < T2) := by omega
          clear hB2 hbad
          rcases hcase with h | ⟨h, h1⟩ | ⟨h, h1, h2⟩ | ⟨h, h1, h2, h3⟩
          all_goals
            go_enter Tryz.func84, Tryz.ntmps84
            go_wp2_with (first | (go_at_call 102; refine (HR _).out.mono ?_; rintro e w1 ⟨rfl, rfl⟩) | (go_at_call 103; refine (HD _).out.mono ?_; rintro e w1 ⟨rfl, rfl⟩) | (go_at_call 104; (first | (with_reducible refine (HT0 _).out.mono ?_) | (with_reducible refine (HT2 _).out.mono ?_) | (with_reducible refine (HT4 _).out.mono ?_)); rintro e w1 ⟨rfl, g1⟩; replace G := Lib.hid (G.out.trans g1); clear g1))
            refine bodyPost_ret (by simp [results, Tryz.results84, go_sem]; try rfl) rfl ?_
            exact ⟨by rw [hI.out]; rfl, G.out⟩
        · have hI : Hid (dateOf (nat s) = ((T0, T2, T4), 0)) := by show _ = _; rw [hB2.out, if_neg hbad]
          have z0 : ¬ (T0 : Int) < 1 := by omega
          have z1 : ¬ (31 : Int) < T0 := by omega
          have z2 : ¬ (T2 : Int) < 1 := by omega
          have z3 : ¬ (12 : Int) < T2 := by omega
          clear hB2 hbad
          go_enter Tryz.func84, Tryz.ntmps84
          go_wp2_with (first | (go_at_call 102; refine (HR _).out.mono ?_; rintro e w1 ⟨rfl, rfl⟩) | (go_at_call 103; refine (HD _).out.mono ?_; rintro e w1 ⟨rfl, rfl⟩) | (go_at_call 104; (first | (with_reducible refine (HT0 _).out.mono ?_) | (with_reducible refine (HT2 _).out.mono ?_) | (with_reducible refine (HT4 _).out.mono ?_)); rintro e w1 ⟨rfl, g1⟩; replace G := Lib.hid (G.out.trans g1); clear g1))
          refine bodyPost_ret (by simp [results, Tryz.results84, go_sem]; try rfl) rfl ?_
          exact ⟨by rw [hI.out]; rfl, G.out⟩
  · have hI : Hid (dateOf (nat s) = ((0, 0, 0), readE (nat s))) := by show _ = _; unfold dateOf; rw [if_pos hr]
    have hr9 := readE_le (nat s)
    have r0 : ¬ (readE (nat s) : Int) = 0 := by omega
    have r1 : ((readE (nat s) : Int) == 0) = false := by simpa using r0
    clear hl hr
    generalize readE (nat s) = r at *
    go_enter Tryz.func84, Tryz.ntmps84
    go_wp2_with (go_at_call 102; refine (HR _).out.mono ?_; rintro e w1 ⟨rfl, rfl⟩)
    refine bodyPost_ret (by simp [results, Tryz.results84, go_sem]; try rfl) rfl ?_
    exact ⟨by rw [hI.out]; rfl, Grew.refl _⟩
end Go.Proofs.YtnhigfkhdmkoeaaGreatDoor


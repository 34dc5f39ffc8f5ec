/-
  Fields as plain lists of bytes: numbers, times, dates, one of some bytes.
-/
import Derived.Test.YtajgicliepenkaaDoorRefA
namespace Go.Proofs.YtajgicliepenkaaDoor
open Go.RowKit
set_option linter.unusedVariables false

/-- A text's bytes as numbers. -/
def nat (s : ByteArray) : List Nat := s.data.toList.map UInt8.toNat
theorem nat_length (s : ByteArray) : (nat s).length = s.size := by unfold nat; rw [List.length_map, Array.length_toList]; rfl
theorem nat_lt (s : ByteArray) (i : Nat) : wd (nat s) i < 256 := by
  unfold wd nat
  rw [List.getD_eq_getElem?_getD, List.getElem?_map]
  cases s.data.toList[i]? with
  | none => simp
  | some x => simpa using x.toNat_lt
theorem nat_wd (s : ByteArray) (i : Nat) (h : i < s.size) : (s[i]'h).toNat = wd (nat s) i := by
  have h2 : i < s.data.size := h
  unfold wd nat
  rw [List.getD_eq_getElem?_getD, List.getElem?_map, Array.getElem?_toList, Array.getElem?_eq_getElem h2]
  rfl

def isDig (b : Nat) : Bool := decide (48 ≤ b ∧ b ≤ 57)
/-- Are the bytes from a place up to another one digits, one at least? -/
def digs (S : List Nat) (a b : Nat) : Bool := decide (a < b) && ((S.drop a).take (b - a)).all isDig
theorem digs_iff {S : List Nat} {a b : Nat} (hb : b ≤ S.length) : digs S a b = true ↔ a < b ∧ ∀ i, a ≤ i → i < b → isDig (wd S i) = true := by
  unfold digs
  rw [Bool.and_eq_true, decide_eq_true_eq, List.all_eq_true]
  refine ⟨fun ⟨h1, h2⟩ => ⟨h1, fun i hi hb' => ?_⟩, fun ⟨h1, h2⟩ => ⟨h1, fun x hx => ?_⟩⟩
  · refine h2 _ ?_
    rw [List.mem_take_iff_getElem]
    refine ⟨i - a, by rw [List.length_drop]; omega, ?_⟩
    rw [wd_lt (by omega), List.getElem_drop]
    congr 1
    omega
  · rw [List.mem_take_iff_getElem] at hx
    obtain ⟨i, hi, rfl⟩ := hx
    rw [List.length_drop] at hi
    have := h2 (a + i) (by omega) (by omega)
    rw [wd_lt (by omega)] at this
    rw [List.getElem_drop]
    exact this
/-- The number of k digits from a place on. -/
def numOf (S : List Nat) (a : Nat) : Nat → Nat
  | 0 => 0
  | k + 1 => numOf S a k * 10 + (wd S (a + k) - 48)
/-- May a field be read? -/
def readE (S : List Nat) : Nat := if S.length = 0 then 7 else if 20 < S.length then 3 else 0
def intAns (S : List Nat) (least most : Int) : Int × Nat :=
  if readE S ≠ 0 then (0, readE S) else if digs S 0 S.length = false then (0, 5) else if (numOf S 0 S.length : Int) < least ∨ most < (numOf S 0 S.length : Int) then (0, 9) else ((numOf S 0 S.length : Int), 0)
def isHex (b : Nat) : Bool := decide (48 ≤ b ∧ b ≤ 57 ∨ 65 ≤ b ∧ b ≤ 70)
def hexv (b : Nat) : Nat := if b ≤ 57 then b - 48 else b - 55
def hexTo (S : List Nat) : Nat → Nat
  | 0 => 0
  | k + 1 => hexTo S k * 16 + hexv (wd S k)
def hexOf (S : List Nat) : Int × Nat :=
  if readE S ≠ 0 then (0, readE S) else if S.all isHex = false then (0, 5) else if 15 < S.length then (0, 3) else ((hexTo S S.length : Nat), 0)
/-- Where the first point stands. -/
def pointOf (S : List Nat) : Nat := (S.takeWhile (fun b => b != 46)).length
def fromOf (S : List Nat) : Nat := if wd S 0 = 45 then 1 else 0
/-- The number with so many places. -/
def fixN (S : List Nat) (at_ base : Nat) : Nat → Nat
  | 0 => base
  | k + 1 => fixN S at_ base k * 10 + (if at_ + (k + 1) < S.length then wd S (at_ + (k + 1)) - 48 else 0)
def fixedOf (S : List Nat) (places : Int) : Int × Nat :=
  if readE S ≠ 0 then (0, readE S)
  else if places < 0 ∨ 9 < places then (0, 2)
  else if digs S (fromOf S) (pointOf S) = false ∨ (pointOf S < S.length ∧ digs S (pointOf S + 1) S.length = false) then (0, 5)
  else if 9 < pointOf S - fromOf S then (0, 9)
  else (if fromOf S = 1 then -(fixN S (pointOf S) (numOf S (fromOf S) (pointOf S - fromOf S)) places.toNat : Int) else (fixN S (pointOf S) (numOf S (fromOf S) (pointOf S - fromOf S)) places.toNat : Int), 0)
def twoOf (S : List Nat) (i : Nat) : Nat := 10 * (wd S i - 48) + (wd S (i + 1) - 48)
/-- A time of day: hours, minutes, seconds, whole; or the error. -/
def clockOf (S : List Nat) : (Nat × Nat × Nat × Bool) × Nat :=
  if readE S ≠ 0 then ((0, 0, 0, false), readE S)
  else if pointOf S ≠ 6 ∨ digs S 0 6 = false ∨ (6 < S.length ∧ digs S 7 S.length = false) then ((0, 0, 0, false), 5)
  else if 23 < twoOf S 0 ∨ 59 < twoOf S 2 ∨ 60 < twoOf S 4 then ((0, 0, 0, false), 5)
  else ((twoOf S 0, twoOf S 2, twoOf S 4, (S.drop 7).all (fun b => b == 48)), 0)
def dateOf (S : List Nat) : (Nat × Nat × Nat) × Nat :=
  if readE S ≠ 0 then ((0, 0, 0), readE S)
  else if S.length ≠ 6 ∨ digs S 0 6 = false ∨ twoOf S 0 < 1 ∨ 31 < twoOf S 0 ∨ twoOf S 2 < 1 ∨ 12 < twoOf S 2 then ((0, 0, 0), 5)
  else ((twoOf S 0, twoOf S 2, twoOf S 4), 0)
/-- The first place where a byte stands. -/
def placeOf (b : Nat) : List Nat → Nat
  | [] => 0
  | x :: L => if x = b then 0 else placeOf b L + 1
def oneOf (S O : List Nat) : Nat × Nat :=
  if readE S ≠ 0 then (0, readE S)
  else if S.length = 1 ∧ placeOf (wd S 0) O < O.length then (placeOf (wd S 0) O, 0)
  else (0, 5)

theorem numOf_lt (S : List Nat) (a : Nat) : ∀ k, (∀ i, a ≤ i → i < a + k → isDig (wd S i) = true) → numOf S a k < 10 ^ k := by
  intro k
  induction k with
  | zero => intro _; simp [numOf]
  | succ k ih =>
    intro h
    have h1 := ih (fun i hi hk => h i hi (by omega))
    have h2 := h (a + k) (by omega) (by omega)
    unfold isDig at h2
    simp at h2
    unfold numOf
    rw [Nat.pow_succ]
    omega
theorem numOf_mono (S : List Nat) (a : Nat) : ∀ k m, k ≤ m → numOf S a k ≤ numOf S a m := by
  intro k m h
  induction m with
  | zero => have : k = 0 := by omega
            subst this; exact Nat.le_refl _
  | succ m ih =>
    rcases Nat.lt_or_ge k (m + 1) with h1 | h1
    · have := ih (by omega)
      rw [numOf]
      omega
    · have : k = m + 1 := by omega
      subst this; exact Nat.le_refl _
theorem hexTo_lt (S : List Nat) : ∀ k, (∀ i, i < k → isHex (wd S i) = true) → hexTo S k < 16 ^ k := by
  intro k
  induction k with
  | zero => intro _; simp [hexTo]
  | succ k ih =>
    intro h
    have h1 := ih (fun i hi => h i (by omega))
    have h2 := h k (by omega)
    have : hexv (wd S k) < 16 := by
      unfold isHex at h2
      simp at h2
      unfold hexv
      split <;> omega
    unfold hexTo
    rw [Nat.pow_succ]
    omega
theorem pointOf_le (S : List Nat) : pointOf S ≤ S.length := by
  unfold pointOf
  exact (List.takeWhile_sublist _).length_le
theorem point_at (S : List Nat) (n : Nat) (h : ∀ i, i < n → wd S i ≠ 46) (hn : n ≤ S.length) (he : n = S.length ∨ wd S n = 46) : pointOf S = n := by
  induction S generalizing n with
  | nil => simp at hn; simp [pointOf, hn]
  | cons x S ih =>
    cases n with
    | zero =>
      rcases he with he | he
      · simp at he
      · simp [wd] at he
        simp [pointOf, he]
    | succ n =>
      have h0 := h 0 (by omega)
      simp [wd] at h0
      have := ih n (fun i hi => by have := h (i + 1) (by omega); simpa [wd] using this) (by simpa using hn) (by
        rcases he with he | he
        · left; simpa using he
        · right; simpa [wd] using he)
      unfold pointOf at this ⊢
      simp [h0, this]
theorem place_at (b : Nat) (L : List Nat) (n : Nat) (h : ∀ i, i < n → wd L i ≠ b) (hn : n ≤ L.length) (he : n = L.length ∨ wd L n = b) : placeOf b L = n := by
  induction L generalizing n with
  | nil => simp at hn; simp [placeOf, hn]
  | cons x S ih =>
    cases n with
    | zero =>
      rcases he with he | he
      · simp at he
      · simp [wd] at he
        simp [placeOf, he]
    | succ n =>
      have h0 := h 0 (by omega)
      simp [wd] at h0
      have := ih n (fun i hi => by have := h (i + 1) (by omega); simpa [wd] using this) (by simpa using hn) (by
        rcases he with he | he
        · left; simpa using he
        · right; simpa [wd] using he)
      simp [placeOf, h0, this]
theorem two_lt (S : List Nat) (i : Nat) (h1 : isDig (wd S i) = true) (h2 : isDig (wd S (i + 1)) = true) : twoOf S i < 100 := by
  unfold isDig at h1 h2
  simp at h1 h2
  unfold twoOf
  omega
end Go.Proofs.YtajgicliepenkaaDoor

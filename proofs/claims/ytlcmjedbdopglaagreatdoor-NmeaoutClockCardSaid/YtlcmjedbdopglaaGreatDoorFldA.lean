/-
  Fields as plain lists of bytes: numbers, times, dates, one of some bytes.
  The document's fields: read, digits, numbers, hex digits, points.
  The document's fields: numbers, hex digits, points, numbers with places.
  The document's fields: numbers with places.
  The document's fields: times, dates, one of some bytes.
  The document's fields: dates.
-/
import Derived.Test.YtlcmjedbdopglaaGreatDoorRefA
import Derived.Test.YtlcmjedbdopglaaGreatDoorNat
import Derived.LoopTactic
import Derived.Deep.CutBlock
import Derived.Deep.DeepCutAuto
import Derived.Deep.QuietTactic
import Derived.BigQuiet
namespace Go.Proofs.YtlcmjedbdopglaaGreatDoor
open Go.RowKit
set_option linter.unusedVariables false

/- Fields as plain lists of bytes: numbers, times, dates, one of some bytes. -/
def isDig (b : Nat) : Bool := decide (48 ≤ b ∧ b ≤ 57)
/-- Are the bytes from a place up to another one digits, one at least? -/
def digs (S : List Nat) (a b : Nat) : Bool := decide (a < b) && ((S.drop a).take (b - a)).all isDig
theorem digs_iff {S : List Nat} {a b : Nat} (hb : b ≤ S.length) : digs S a b = true ↔ a < b ∧ ∀ i, a ≤ i → i < b → isDig (wd S i) = true := by
  unfold digs
  rw [Bool.and_eq_true, decide_eq_true_eq, List.all_eq_true]
  refine ⟨fun ⟨h1, h2⟩ => ⟨h1, fun i hi hb' => ?_⟩, fun ⟨h1, h2⟩ => ⟨h1, fun x hx => ?_⟩⟩
  · refine h2 _ ?_
    rw [List.mem_take_iff_getElem]
    refine ⟨i - a, by rw [List.length_drop]; omega, ?_⟩
    rw [wd_lt (by omega), List.getElem_drop]
    congr 1
    omega
  · rw [List.mem_take_iff_getElem] at hx
    obtain ⟨i, hi, rfl⟩ := hx
    rw [List.length_drop] at hi
    have := h2 (a + i) (by omega) (by omega)
    rw [wd_lt (by omega)] at this
    rw [List.getElem_drop]
    exact this
/-- The number of k digits from a place on. -/
def numOf (S : List Nat) (a : Nat) : Nat → Nat
  | 0 => 0
  | k + 1 => numOf S a k * 10 + (wd S (a + k) - 48)
/-- May a field be read? -/
def readE (S : List Nat) : Nat := if S.length = 0 then 7 else if 20 < S.length then 3 else 0
def intAns (S : List Nat) (least most : Int) : Int × Nat :=
  if readE S ≠ 0 then (0, readE S) else if digs S 0 S.length = false then (0, 5) else if (numOf S 0 S.length : Int) < least ∨ most < (numOf S 0 S.length : Int) then (0, 9) else ((numOf S 0 S.length : Int), 0)
def isHex (b : Nat) : Bool := decide (48 ≤ b ∧ b ≤ 57 ∨ 65 ≤ b ∧ b ≤ 70)
def hexv (b : Nat) : Nat := if b ≤ 57 then b - 48 else b - 55
def hexTo (S : List Nat) : Nat → Nat
  | 0 => 0
  | k + 1 => hexTo S k * 16 + hexv (wd S k)
def hexOf (S : List Nat) : Int × Nat :=
  if readE S ≠ 0 then (0, readE S) else if S.all isHex = false then (0, 5) else if 15 < S.length then (0, 3) else ((hexTo S S.length : Nat), 0)
/-- Where the first point stands. -/
def pointOf (S : List Nat) : Nat := (S.takeWhile (fun b => b != 46)).length
def fromOf (S : List Nat) : Nat := if wd S 0 = 45 then 1 else 0
/-- The number with so many places. -/
def fixN (S : List Nat) (at_ base : Nat) : Nat → Nat
  | 0 => base
  | k + 1 => fixN S at_ base k * 10 + (if at_ + (k + 1) < S.length then wd S (at_ + (k + 1)) - 48 else 0)
def fixedOf (S : List Nat) (places : Int) : Int × Nat :=
  if readE S ≠ 0 then (0, readE S)
  else if places < 0 ∨ 9 < places then (0, 2)
  else if digs S (fromOf S) (pointOf S) = false ∨ (pointOf S < S.length ∧ digs S (pointOf S + 1) S.length = false) then (0, 5)
  else if 9 < pointOf S - fromOf S then (0, 9)
  else (if fromOf S = 1 then -(fixN S (pointOf S) (numOf S (fromOf S) (pointOf S - fromOf S)) places.toNat : Int) else (fixN S (pointOf S) (numOf S (fromOf S) (pointOf S - fromOf S)) places.toNat : Int), 0)
def twoOf (S : List Nat) (i : Nat) : Nat := 10 * (wd S i - 48) + (wd S (i + 1) - 48)
/-- A time of day: hours, minutes, seconds, whole; or the error. -/
def clockOf (S : List Nat) : (Nat × Nat × Nat × Bool) × Nat :=
  if readE S ≠ 0 then ((0, 0, 0, false), readE S)
  else if pointOf S ≠ 6 ∨ digs S 0 6 = false ∨ (6 < S.length ∧ digs S 7 S.length = false) then ((0, 0, 0, false), 5)
  else if 23 < twoOf S 0 ∨ 59 < twoOf S 2 ∨ 60 < twoOf S 4 then ((0, 0, 0, false), 5)
  else ((twoOf S 0, twoOf S 2, twoOf S 4, (S.drop 7).all (fun b => b == 48)), 0)
def dateOf (S : List Nat) : (Nat × Nat × Nat) × Nat :=
  if readE S ≠ 0 then ((0, 0, 0), readE S)
  else if S.length ≠ 6 ∨ digs S 0 6 = false ∨ twoOf S 0 < 1 ∨ 31 < twoOf S 0 ∨ twoOf S 2 < 1 ∨ 12 < twoOf S 2 then ((0, 0, 0), 5)
  else ((twoOf S 0, twoOf S 2, twoOf S 4), 0)
/-- The first place where a byte stands. -/
def placeOf (b : Nat) : List Nat → Nat
  | [] => 0
  | x :: L => if x = b then 0 else placeOf b L + 1
def oneOf (S O : List Nat) : Nat × Nat :=
  if readE S ≠ 0 then (0, readE S)
  else if S.length = 1 ∧ placeOf (wd S 0) O < O.length then (placeOf (wd S 0) O, 0)
  else (0, 5)

theorem numOf_lt (S : List Nat) (a : Nat) : ∀ k, (∀ i, a ≤ i → i < a + k → isDig (wd S i) = true) → numOf S a k < 10 ^ k := by
  intro k
  induction k with
  | zero => intro _; simp [numOf]
  | succ k ih =>
    intro h
    have h1 := ih (fun i hi hk => h i hi (by omega))
    have h2 := h (a + k) (by omega) (by omega)
    unfold isDig at h2
    simp at h2
    unfold numOf
    rw [Nat.pow_succ]
    omega
theorem numOf_mono (S : List Nat) (a : Nat) : ∀ k m, k ≤ m → numOf S a k ≤ numOf S a m := by
  intro k m h
  induction m with
  | zero => have : k = 0 := by omega
            subst this; exact Nat.le_refl _
  | succ m ih =>
    rcases Nat.lt_or_ge k (m + 1) with h1 | h1
    · have := ih (by omega)
      rw [numOf]
      omega
    · have : k = m + 1 := by omega
      subst this; exact Nat.le_refl _
theorem hexTo_lt (S : List Nat) : ∀ k, (∀ i, i < k → isHex (wd S i) = true) → hexTo S k < 16 ^ k := by
  intro k
  induction k with
  | zero => intro _; simp [hexTo]
  | succ k ih =>
    intro h
    have h1 := ih (fun i hi => h i (by omega))
    have h2 := h k (by omega)
    have : hexv (wd S k) < 16 := by
      unfold isHex at h2
      simp at h2
      unfold hexv
      split <;> omega
    unfold hexTo
    rw [Nat.pow_succ]
    omega
theorem pointOf_le (S : List Nat) : pointOf S ≤ S.length := by
  unfold pointOf
  exact (List.takeWhile_sublist _).length_le
theorem point_at (S : List Nat) (n : Nat) (h : ∀ i, i < n → wd S i ≠ 46) (hn : n ≤ S.length) (he : n = S.length ∨ wd S n = 46) : pointOf S = n := by
  induction S generalizing n with
  | nil => simp at hn; simp [pointOf, hn]
  | cons x S ih =>
    cases n with
    | zero =>
      rcases he with he | he
      · simp at he
      · simp [wd] at he
        simp [pointOf, he]
    | succ n =>
      have h0 := h 0 (by omega)
      simp [wd] at h0
      have := ih n (fun i hi => by have := h (i + 1) (by omega); simpa [wd] using this) (by simpa using hn) (by
        rcases he with he | he
        · left; simpa using he
        · right; simpa [wd] using he)
      unfold pointOf at this ⊢
      simp [h0, this]
theorem place_at (b : Nat) (L : List Nat) (n : Nat) (h : ∀ i, i < n → wd L i ≠ b) (hn : n ≤ L.length) (he : n = L.length ∨ wd L n = b) : placeOf b L = n := by
  induction L generalizing n with
  | nil => simp at hn; simp [placeOf, hn]
  | cons x S ih =>
    cases n with
    | zero =>
      rcases he with he | he
      · simp at he
      · simp [wd] at he
        simp [placeOf, he]
    | succ n =>
      have h0 := h 0 (by omega)
      simp [wd] at h0
      have := ih n (fun i hi => by have := h (i + 1) (by omega); simpa [wd] using this) (by simpa using hn) (by
        rcases he with he | he
        · left; simpa using he
        · right; simpa [wd] using he)
      simp [placeOf, h0, this]
theorem two_lt (S : List Nat) (i : Nat) (h1 : isDig (wd S i) = true) (h2 : isDig (wd S (i + 1)) = true) : twoOf S i < 100 := by
  unfold isDig at h1 h2
  simp at h1 h2
  unfold twoOf
  omega
/- The document's fields: read, digits, numbers, hex digits, points. -/
theorem str_at (s : ByteArray) (j : Nat) (h : j < s.size) (w : World) : Sem.run Tryz.prog (Instr.index 9 (.string s) (.int .i64 (j : Nat))) w = .ok (.int .u8 (wd (nat s) j : Nat)) w := by
  rw [run_index_string w 9 s .i64 j Tryz.underlying9, dif_pos ⟨by omega, by omega⟩]
  rw [← nat_wd s j h]
  rfl
theorem fld_ret_bool {a b : Bool} (h : a = b) : Ending.returned (.bool a) = .returned (.bool b) := by rw [h]

/- The document's fields: numbers, hex digits, points, numbers with places. -/
theorem ret_two {k l : IntKind} {a b c d : Int} (h : a = c) (h2 : b = d) : Ending.returned (.tuple #[.int k a, .int l b]) = .returned (.tuple #[.int k c, .int l d]) := by rw [h, h2]
theorem digs_all {S : List Nat} {a b : Nat} (hb : b ≤ S.length) (h : digs S a b = true) : ∀ i, a ≤ i → i < b → isDig (wd S i) = true := ((digs_iff hb).1 h).2

theorem readE_zero {s : ByteArray} (h : readE (nat s) = 0) : 1 ≤ s.size ∧ s.size ≤ 20 := by
  unfold readE at h
  rw [nat_length] at h
  by_cases h0 : s.size = 0
  · rw [if_pos h0] at h; omega
  · rw [if_neg h0] at h
    by_cases h1 : 20 < s.size
    · rw [if_pos h1] at h; omega
    · omega
theorem readE_le (S : List Nat) : readE S ≤ 9 := by unfold readE; repeat' split
                                                    all_goals omega
theorem all_iff {S : List Nat} {p : Nat → Bool} : S.all p = true ↔ ∀ i, i < S.length → p (wd S i) = true := by
  rw [List.all_eq_true]
  refine ⟨fun h i hi => by rw [wd_lt hi]; exact h _ (List.getElem_mem hi), fun h x hx => ?_⟩
  obtain ⟨i, hi, rfl⟩ := List.getElem_of_mem hx
  have := h i hi
  rwa [wd_lt hi] at this

/- The document's fields: numbers with places. -/
theorem num_step (S : List Nat) (a m : Nat) (h : a ≤ m) : numOf S a (m + 1 - a) = numOf S a (m - a) * 10 + (wd S m - 48) := by
  rw [show m + 1 - a = (m - a) + 1 by omega, numOf, show a + (m - a) = m by omega]
theorem fixN_lt (S : List Nat) (p base : Nat) (hb : base < 10 ^ 9) (h : ∀ i, p < i → i < S.length → isDig (wd S i) = true) : ∀ k, fixN S p base k < 10 ^ (9 + k) := by
  intro k
  induction k with
  | zero => exact hb
  | succ k ih =>
    rw [fixN, show 9 + (k + 1) = (9 + k) + 1 by omega, Nat.pow_succ]
    split
    · rename_i hlt
      have h2 := h (p + (k + 1)) (by omega) hlt
      unfold isDig at h2
      simp at h2
      omega
    · omega
theorem point_pos (S : List Nat) (h : 0 < S.length) (h2 : wd S 0 ≠ 46) : 1 ≤ pointOf S := by
  cases S with
  | nil => simp at h
  | cons x S => simp [wd] at h2; simp [pointOf, h2]
/-- What a number with places is, once it is read and the places may be. -/
def fixedBody (S : List Nat) (P f : Nat) : Int × Nat :=
  if digs S f (pointOf S) = false ∨ (pointOf S < S.length ∧ digs S (pointOf S + 1) S.length = false) then (0, 5)
  else if 9 < pointOf S - f then (0, 9)
  else (if f = 1 then -(fixN S (pointOf S) (numOf S f (pointOf S - f)) P : Int) else (fixN S (pointOf S) (numOf S f (pointOf S - f)) P : Int), 0)
theorem fixed_body (S : List Nat) (P : Nat) (hr : readE S = 0) (hP : P ≤ 9) : fixedOf S (P : Nat) = fixedBody S P (fromOf S) := by
  unfold fixedOf fixedBody
  rw [if_neg (by omega), if_neg (by omega), Int.toNat_natCast]



/- The document's fields: times, dates, one of some bytes. -/

/-- A variable of four cells. -/
structure FourAt (w : World) (b : Nat) (x0 x1 x2 x3 : Value) : Prop where
  lt : b < w.heap.size
  c0 : w.cell? ⟨b, 0, none⟩ = some x0
  c1 : w.cell? ⟨b, 1, none⟩ = some x1
  c2 : w.cell? ⟨b, 2, none⟩ = some x2
  c3 : w.cell? ⟨b, 3, none⟩ = some x3
  f0 : w.frozen? ⟨b, 0, none⟩ = false
  f1 : w.frozen? ⟨b, 1, none⟩ = false
  f2 : w.frozen? ⟨b, 2, none⟩ = false
  f3 : w.frozen? ⟨b, 3, none⟩ = false
section
variable {w w' : World} {b c : Nat} {x0 x1 x2 x3 : Value}
theorem FourAt.new (w : World) (x0 x1 x2 x3 : Value) (E : TypeId) : FourAt (w.alloc (.cells #[x0, x1, x2, x3] E)) w.heap.size x0 x1 x2 x3 := by
  refine ⟨by simp, ?_, ?_, ?_, ?_, ?_, ?_, ?_, ?_⟩ <;> simp [go_sem]
theorem FourAt.grew (h : FourAt w b x0 x1 x2 x3) (g : Grew w w') : FourAt w' b x0 x1 x2 x3 :=
  ⟨Nat.lt_of_lt_of_le h.lt g.size, (g.cell (p := ⟨b, 0, none⟩) h.lt).trans h.c0, (g.cell (p := ⟨b, 1, none⟩) h.lt).trans h.c1, (g.cell (p := ⟨b, 2, none⟩) h.lt).trans h.c2, (g.cell (p := ⟨b, 3, none⟩) h.lt).trans h.c3,
   (g.frozen (p := ⟨b, 0, none⟩) h.lt).trans h.f0, (g.frozen (p := ⟨b, 1, none⟩) h.lt).trans h.f1, (g.frozen (p := ⟨b, 2, none⟩) h.lt).trans h.f2, (g.frozen (p := ⟨b, 3, none⟩) h.lt).trans h.f3⟩
theorem cell_ne4 {i j : Nat} (h : i ≠ j) : (⟨b, i, none⟩ : Addr) ≠ ⟨b, j, none⟩ := fun e => h (by injection e)
theorem FourAt.set3 (h : FourAt w b x0 x1 x2 x3) (y : Value) : FourAt (w.setCell ⟨b, 3, none⟩ y) b x0 x1 x2 y :=
  ⟨by simpa [World.setCell] using h.lt, (World.cell?_setCell_other _ _ _ _ (cell_ne4 (by omega))).trans h.c0, (World.cell?_setCell_other _ _ _ _ (cell_ne4 (by omega))).trans h.c1, (World.cell?_setCell_other _ _ _ _ (cell_ne4 (by omega))).trans h.c2, World.cell?_setCell_same _ _ _ h.c3,
   by simpa using h.f0, by simpa using h.f1, by simpa using h.f2, by simpa using h.f3⟩
theorem FourAt.set0 (h : FourAt w b x0 x1 x2 x3) (y : Value) : FourAt (w.setCell ⟨b, 0, none⟩ y) b y x1 x2 x3 :=
  ⟨by simpa [World.setCell] using h.lt, World.cell?_setCell_same _ _ _ h.c0, (World.cell?_setCell_other _ _ _ _ (cell_ne4 (by omega))).trans h.c1, (World.cell?_setCell_other _ _ _ _ (cell_ne4 (by omega))).trans h.c2, (World.cell?_setCell_other _ _ _ _ (cell_ne4 (by omega))).trans h.c3,
   by simpa using h.f0, by simpa using h.f1, by simpa using h.f2, by simpa using h.f3⟩
theorem FourAt.set1 (h : FourAt w b x0 x1 x2 x3) (y : Value) : FourAt (w.setCell ⟨b, 1, none⟩ y) b x0 y x2 x3 :=
  ⟨by simpa [World.setCell] using h.lt, (World.cell?_setCell_other _ _ _ _ (cell_ne4 (by omega))).trans h.c0, World.cell?_setCell_same _ _ _ h.c1, (World.cell?_setCell_other _ _ _ _ (cell_ne4 (by omega))).trans h.c2, (World.cell?_setCell_other _ _ _ _ (cell_ne4 (by omega))).trans h.c3,
   by simpa using h.f0, by simpa using h.f1, by simpa using h.f2, by simpa using h.f3⟩
theorem FourAt.set2 (h : FourAt w b x0 x1 x2 x3) (y : Value) : FourAt (w.setCell ⟨b, 2, none⟩ y) b x0 x1 y x3 :=
  ⟨by simpa [World.setCell] using h.lt, (World.cell?_setCell_other _ _ _ _ (cell_ne4 (by omega))).trans h.c0, (World.cell?_setCell_other _ _ _ _ (cell_ne4 (by omega))).trans h.c1, World.cell?_setCell_same _ _ _ h.c2, (World.cell?_setCell_other _ _ _ _ (cell_ne4 (by omega))).trans h.c3,
   by simpa using h.f0, by simpa using h.f1, by simpa using h.f2, by simpa using h.f3⟩
theorem FourAt.other (h : FourAt w b x0 x1 x2 x3) (hne : b ≠ c) (i : Nat) (y : Value) : FourAt (w.setCell ⟨c, i, none⟩ y) b x0 x1 x2 x3 := by
  have ne : ∀ {i j : Nat}, (⟨c, i, none⟩ : Addr) ≠ ⟨b, j, none⟩ := fun e => hne (by injection e with e; exact e.symm)
  exact ⟨by simpa [World.setCell] using h.lt, (World.cell?_setCell_other _ _ _ _ ne).trans h.c0, (World.cell?_setCell_other _ _ _ _ ne).trans h.c1, (World.cell?_setCell_other _ _ _ _ ne).trans h.c2, (World.cell?_setCell_other _ _ _ _ ne).trans h.c3,
   by simpa using h.f0, by simpa using h.f1, by simpa using h.f2, by simpa using h.f3⟩
end
def fourSet (w : World) (b : Nat) (y0 y1 y2 y3 : Value) : World := (((w.setCell ⟨b, 0, none⟩ y0).setCell ⟨b, 1, none⟩ y1).setCell ⟨b, 2, none⟩ y2).setCell ⟨b, 3, none⟩ y3
theorem FourAt.all {w : World} {b : Nat} {x0 x1 x2 x3 : Value} (h : FourAt w b x0 x1 x2 x3) (y0 y1 y2 y3 : Value) : FourAt (fourSet w b y0 y1 y2 y3) b y0 y1 y2 y3 := (((h.set0 y0).set1 y1).set2 y2).set3 y3
theorem Grew.four {w w' : World} (g : Grew w w') (b : Nat) (hb : w.heap.size ≤ b) (y0 y1 y2 y3 : Value) : Grew w (fourSet w' b y0 y1 y2 y3) := (((g.setCell (p := ⟨b, 0, none⟩) hb _).setCell (p := ⟨b, 1, none⟩) hb _).setCell (p := ⟨b, 2, none⟩) hb _).setCell (p := ⟨b, 3, none⟩) hb _
theorem clockW (w : World) (E1 E2 : TypeId) : ∃ W, (w.alloc (.cells #[.int .i64 0, .int .i64 0, .int .i64 0, .bool false] E1)).alloc (.cells #[.int .i64 0, .int .i64 0, .int .i64 0, .bool false] E2) = W ∧ Grew w W ∧ FourAt W w.heap.size (.int .i64 0) (.int .i64 0) (.int .i64 0) (.bool false) ∧ FourAt W (w.heap.size + 1) (.int .i64 0) (.int .i64 0) (.int .i64 0) (.bool false) := by
  have h := FourAt.new (w.alloc (.cells #[.int .i64 0, .int .i64 0, .int .i64 0, .bool false] E1)) (.int .i64 0) (.int .i64 0) (.int .i64 0) (.bool false) E2
  rw [World.size_alloc] at h
  exact ⟨_, rfl, ((Grew.refl w).alloc _).alloc _, (FourAt.new w _ _ _ _ _).grew ((Grew.refl _).alloc _), h⟩

theorem all_more (S : List Nat) (p : Nat → Bool) (m : Nat) (hm : 7 ≤ m) (hl : m < S.length) : ((S.drop 7).take (m + 1 - 7)).all p = (((S.drop 7).take (m - 7)).all p && p (wd S m)) := by
  rw [show m + 1 - 7 = (m - 7) + 1 by omega, List.take_add_one, List.all_append, List.getElem?_drop, show 7 + (m - 7) = m by omega, List.getElem?_eq_getElem hl, wd_lt hl]
  simp
/-- A time of day, as it is told. -/
def dayVal (c : (Nat × Nat × Nat × Bool) × Nat) : Value := .tuple #[.agg #[.int .i64 (c.1.1 : Nat), .int .i64 (c.1.2.1 : Nat), .int .i64 (c.1.2.2.1 : Nat), .bool c.1.2.2.2], .int .i64 (c.2 : Nat)]



/- The document's fields: dates. -/
/-- A date, as it is told. -/
def dateVal (c : (Nat × Nat × Nat) × Nat) : Value := .tuple #[.int .i64 (c.1.1 : Nat), .int .i64 (c.1.2.1 : Nat), .int .i64 (c.1.2.2 : Nat), .int .i64 (c.2 : Nat)]
end Go.Proofs.YtlcmjedbdopglaaGreatDoor

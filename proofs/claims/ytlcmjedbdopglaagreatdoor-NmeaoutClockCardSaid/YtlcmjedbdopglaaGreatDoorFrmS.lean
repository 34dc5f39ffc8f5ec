/-
  Frames as plain lists: their bytes, what stands at a begin, what is taken out.
  The document's frames: a frame's bytes.
  The document's frames: the bytes of the two kinds that count their bytes.
-/
import Derived.Test.YtlcmjedbdopglaaGreatDoorSumM
import Derived.Test.YtlcmjedbdopglaaGreatDoorRngL
import Derived.Test.YtlcmjedbdopglaaGreatDoorSumX
import Derived.LoopTactic
import Derived.Deep.RegionHeld3
namespace Go.Proofs.YtlcmjedbdopglaaGreatDoor
open Go.RowKit
set_option linter.unusedVariables false

/- Frames as plain lists: their bytes, what stands at a begin, what is taken out. -/
/-- May a byte stand in a sentence? A digit of a sum. -/
def may (b : Nat) : Bool := decide (32 ≤ b ∧ b ≤ 126 ∧ b ≠ 36 ∧ b ≠ 42)
def digit (n : Nat) : Nat := if n < 10 then 48 + n else 55 + n
/-- What the sums of a UBX frame go over. -/
def ubxRow (ns : List Nat) : List Nat := [wd ns 0, wd ns 1, (ns.length - 2) % 256, (ns.length - 2) / 256] ++ ns.drop 2
/-- The error of a frame's bytes, by its number; its bytes where there is none. -/
def frameErr (k : Nat) (ns : List Nat) : Nat :=
  if k = 1 then (if 76 < ns.length then 3 else if ns.all may = true then 0 else 5)
  else if k = 2 then (if ns.length < 2 then 4 else if 514 < ns.length then 3 else 0)
  else if k = 3 then (if 1023 < ns.length then 3 else 0)
  else 2
def frameRow (k : Nat) (ns : List Nat) : List Nat :=
  if k = 1 then 36 :: (ns ++ [42, digit (xorOf ns / 16), digit (xorOf ns % 16), 13, 10])
  else if k = 2 then [181, 98] ++ (ubxRow ns ++ [fletA (ubxRow ns), fletB (ubxRow ns)])
  else [160, 162, ns.length / 256, ns.length % 256] ++ (ns ++ [fifOf ns / 256, fifOf ns % 256, 176, 179])
def frameBytes (k : Nat) (ns : List Nat) : List Nat := if frameErr k ns = 0 then frameRow k ns else []

/-- The frame that bytes begin: its kind, its body as far as it is there; is it there; can it not be. -/
def bodyOf (size : Nat) (L : List Nat) : Nat × List Nat × Bool × Bool :=
  if wd L 0 = 36 then
    (if 76 < ((L.drop 1).takeWhile may).length then (1, (L.drop 1).takeWhile may, false, true)
     else (1, (L.drop 1).takeWhile may, decide (((L.drop 1).takeWhile may).length + 1 < L.length), false))
  else if wd L 0 = 181 then
    (if 1 < L.length ∧ wd L 1 ≠ 98 then (2, [], false, true)
     else if L.length < 6 then (2, [], false, false)
     else if 512 < wd L 4 + 256 * wd L 5 ∨ size < wd L 4 + 256 * wd L 5 + 8 then (2, [], false, true)
     else if L.length < 6 + (wd L 4 + 256 * wd L 5) then (2, [], false, false)
     else (2, wd L 2 :: wd L 3 :: (L.drop 6).take (wd L 4 + 256 * wd L 5), true, false))
  else if wd L 0 = 160 then
    (if 1 < L.length ∧ wd L 1 ≠ 162 then (3, [], false, true)
     else if L.length < 4 then (3, [], false, false)
     else if 1023 < 256 * wd L 2 + wd L 3 ∨ size < 256 * wd L 2 + wd L 3 + 8 then (3, [], false, true)
     else if L.length < 4 + (256 * wd L 2 + wd L 3) then (3, [], false, false)
     else (3, (L.drop 4).take (256 * wd L 2 + wd L 3), true, false))
  else (0, [], false, true)
/-- How far two rows are the same. -/
def common : List Nat → List Nat → Nat
  | x :: xs, y :: ys => if x = y then common xs ys + 1 else 0
  | _, _ => 0
/-- What stands at a begin: 0 short, 1 whole, 2 wrong; the frame and its length, where it is whole. -/
def standOf (size : Nat) (L : List Nat) : Nat × Nat × List Nat × Nat :=
  if L.length = 0 then (0, 0, [], 0)
  else if (bodyOf size L).2.2.2 = true then (2, 0, [], 0)
  else if (bodyOf size L).2.2.1 = true ∧ common (frameBytes (bodyOf size L).1 (bodyOf size L).2.1) L = (frameBytes (bodyOf size L).1 (bodyOf size L).2.1).length then
    (1, (bodyOf size L).1, (bodyOf size L).2.1, (frameBytes (bodyOf size L).1 (bodyOf size L).2.1).length)
  else if (bodyOf size L).2.2.1 = true ∧ common (frameBytes (bodyOf size L).1 (bodyOf size L).2.1) L < L.length then (2, 0, [], 0)
  else if L.length = size then (2, 0, [], 0)
  else (0, 0, [], 0)
/-- What is taken out next: the frame, if there is one; how many bytes were dropped as wrong; what is left. -/
def nextOf (size : Nat) : List Nat → Option (Nat × List Nat) × Nat × List Nat
  | [] => (none, 0, [])
  | x :: L =>
    if (standOf size (x :: L)).1 = 0 then (none, 0, x :: L)
    else if (standOf size (x :: L)).1 = 1 then (some ((standOf size (x :: L)).2.1, (standOf size (x :: L)).2.2.1), 0, (x :: L).drop (standOf size (x :: L)).2.2.2)
    else ((nextOf size L).1, (nextOf size L).2.1 + 1, (nextOf size L).2.2)
/-- All that is taken out, one behind the other. -/
inductive Took (size : Nat) : List Nat → List (Nat × List Nat) → Nat → List Nat → Prop where
  | none (L : List Nat) (h : (nextOf size L).1 = Option.none) : Took size L [] (nextOf size L).2.1 (nextOf size L).2.2
  | some (L : List Nat) (x : Nat × List Nat) (fs : List (Nat × List Nat)) (d : Nat) (R : List Nat) (h : (nextOf size L).1 = Option.some x) (t : Took size (nextOf size L).2.2 fs d R) : Took size L (x :: fs) ((nextOf size L).2.1 + d) R

theorem Took.det {size : Nat} {L : List Nat} {fs : List (Nat × List Nat)} {d : Nat} {R : List Nat} (h : Took size L fs d R) : ∀ {fs' : List (Nat × List Nat)} {d' : Nat} {R' : List Nat}, Took size L fs' d' R' → fs = fs' ∧ d = d' ∧ R = R' := by
  induction h with
  | none L h =>
    intro fs' d' R' k
    cases k with
    | none _ _ => exact ⟨rfl, rfl, rfl⟩
    | some _ x fs d R h' t => rw [h] at h'; cases h'
  | some L x fs d R h t ih =>
    intro fs' d' R' k
    cases k with
    | none _ h' => rw [h] at h'; cases h'
    | some _ x' fs1 d1 R1 h' t' =>
      rw [h] at h'
      obtain ⟨rfl, rfl, rfl⟩ := ih t'
      cases h'
      exact ⟨rfl, rfl, rfl⟩

theorem common_le (xs ys : List Nat) : common xs ys ≤ xs.length ∧ common xs ys ≤ ys.length := by
  induction xs generalizing ys with
  | nil => simp [common]
  | cons x xs ih =>
    cases ys with
    | nil => simp [common]
    | cons y ys =>
      unfold common
      have := ih ys
      split <;> simp <;> omega
theorem common_self (xs ys : List Nat) : common xs (xs ++ ys) = xs.length := by
  induction xs with
  | nil => simp [common]
  | cons x xs ih => simp [common, ih]
/-- As it is reckoned: place by place. -/
theorem common_eq (xs ys : List Nat) (n : Nat) (h : ∀ i, i < n → wd xs i = wd ys i) (hx : n ≤ xs.length) (hy : n ≤ ys.length) (he : n = xs.length ∨ n = ys.length ∨ wd xs n ≠ wd ys n) : common xs ys = n := by
  induction xs generalizing ys n with
  | nil => simp at hx; simp [common, hx]
  | cons x xs ih =>
    cases ys with
    | nil => simp at hy; simp [common, hy]
    | cons y ys =>
      cases n with
      | zero =>
        rcases he with he | he | he
        · simp at he
        · simp at he
        · simp [wd] at he
          simp [common, he]
      | succ n =>
        have h0 := h 0 (by omega)
        simp [wd] at h0
        have := ih ys n (fun i hi => by have := h (i + 1) (by omega); simpa [wd] using this) (by simpa using hx) (by simpa using hy) (by
          rcases he with he | he | he
          · left; simpa using he
          · right; left; simpa using he
          · right; right; simpa [wd] using he)
        simp [common, h0, this]

theorem nextOf_length (size : Nat) (L : List Nat) : (nextOf size L).2.2.length ≤ L.length := by
  induction L with
  | nil => simp [nextOf]
  | cons x L ih =>
    unfold nextOf
    split
    · simp
    · split
      · simp [List.length_drop]
      · simp; omega
theorem takeWhile_all (ns rest : List Nat) (p : Nat → Bool) (x : Nat) (h : ns.all p = true) (hx : p x = false) : (ns ++ x :: rest).takeWhile p = ns := by
  induction ns with
  | nil => simp [hx]
  | cons a ns ih =>
    simp only [List.all_cons, Bool.and_eq_true] at h
    simp [h.1, ih h.2]

/-- A frame that has bytes is whole where they stand, if there is room for so long a one. -/
theorem stand_whole (size : Nat) (k : Nat) (ns rest : List Nat) (he : frameErr k ns = 0) (hs : (frameRow k ns).length ≤ size) : standOf size (frameRow k ns ++ rest) = (1, k, ns, (frameRow k ns).length) := by
  have hb : bodyOf size (frameRow k ns ++ rest) = (k, ns, true, false) := by
    unfold frameErr at he
    by_cases h1 : k = 1
    · subst h1
      simp only [if_true] at he
      have hl : ns.length ≤ 76 := by by_cases h : 76 < ns.length <;> simp_all <;> omega
      have ha : ns.all may = true := by by_cases h : 76 < ns.length <;> simp_all
      have ht : ((frameRow 1 ns ++ rest).drop 1).takeWhile may = ns := by
        simp only [frameRow, if_true, List.cons_append, List.drop_succ_cons, List.drop_zero, List.append_assoc]
        exact takeWhile_all ns _ may 42 ha (by decide)
      unfold bodyOf
      rw [ht, if_pos (by simp [frameRow, wd]), if_neg (by omega)]
      simp [frameRow]
    · by_cases h2 : k = 2
      · subst h2
        simp only [show ¬ (2 : Nat) = 1 by omega, if_false, if_true] at he
        have hl : 2 ≤ ns.length ∧ ns.length ≤ 514 := by by_cases h : ns.length < 2 <;> by_cases h' : 514 < ns.length <;> simp_all <;> omega
        obtain ⟨a, b, t, rfl⟩ : ∃ a b t, ns = a :: b :: t := by
          match ns, hl with
          | a :: b :: t, _ => exact ⟨a, b, t, rfl⟩
        simp only [List.length_cons] at hl
        have e : frameRow 2 (a :: b :: t) ++ rest = 181 :: 98 :: a :: b :: (t.length % 256) :: (t.length / 256) :: (t ++ (fletA (ubxRow (a :: b :: t)) :: fletB (ubxRow (a :: b :: t)) :: rest)) := by
          simp [frameRow, ubxRow, wd]
        have hlen : (frameRow 2 (a :: b :: t)).length = t.length + 8 := by simp [frameRow, ubxRow]
        rw [hlen] at hs
        rw [e]
        unfold bodyOf
        have hd : t.length % 256 + 256 * (t.length / 256) = t.length := by omega
        simp only [wd, List.getD_cons_zero, List.getD_cons_succ, hd]
        simp [show ¬ 512 < t.length by omega, show ¬ size < t.length + 8 by omega]
        split <;> simp_all <;> omega
      · by_cases h3 : k = 3
        · subst h3
          simp only [show ¬ (3 : Nat) = 1 by omega, show ¬ (3 : Nat) = 2 by omega, if_false, if_true] at he
          have hl : ns.length ≤ 1023 := by by_cases h : 1023 < ns.length <;> simp_all <;> omega
          have e : frameRow 3 ns ++ rest = 160 :: 162 :: (ns.length / 256) :: (ns.length % 256) :: (ns ++ (fifOf ns / 256 :: fifOf ns % 256 :: 176 :: 179 :: rest)) := by
            simp [frameRow]
          have hlen : (frameRow 3 ns).length = ns.length + 8 := by simp [frameRow]
          rw [hlen] at hs
          rw [e]
          unfold bodyOf
          have hd : 256 * (ns.length / 256) + ns.length % 256 = ns.length := by omega
          simp only [wd, List.getD_cons_zero, List.getD_cons_succ, hd]
          simp [show ¬ 1023 < ns.length by omega, show ¬ size < ns.length + 8 by omega]
          split <;> simp_all <;> omega
        · simp [h1, h2, h3] at he
  have hr : frameBytes k ns = frameRow k ns := by unfold frameBytes; rw [if_pos he]
  have h0 : ¬ (frameRow k ns ++ rest).length = 0 := by
    unfold frameRow
    split <;> try split
    all_goals simp
  unfold standOf
  rw [if_neg h0, hb]
  simp only [hr, common_self]
  simp
theorem row_pos (k : Nat) (ns : List Nat) : ∃ x L, frameRow k ns = x :: L := by
  unfold frameRow
  split
  · exact ⟨_, _, rfl⟩
  · split
    · exact ⟨_, _, rfl⟩
    · exact ⟨_, _, rfl⟩
theorem next_whole (size : Nat) (k : Nat) (ns rest : List Nat) (he : frameErr k ns = 0) (hs : (frameRow k ns).length ≤ size) : nextOf size (frameRow k ns ++ rest) = (some (k, ns), 0, rest) := by
  have h := stand_whole size k ns rest he hs
  obtain ⟨x, L, e⟩ := row_pos k ns
  have hd : (frameRow k ns ++ rest).drop (frameRow k ns).length = rest := by simp
  rw [e, List.cons_append] at h hd ⊢
  unfold nextOf
  rw [h]
  simp only [Nat.one_ne_zero, if_false, if_true]
  rw [hd]
/-- A byte that begins no frame is dropped. -/
theorem next_between (size x : Nat) (L : List Nat) (h : x ≠ 36 ∧ x ≠ 181 ∧ x ≠ 160) : nextOf size (x :: L) = ((nextOf size L).1, (nextOf size L).2.1 + 1, (nextOf size L).2.2) := by
  have hb : bodyOf size (x :: L) = (0, [], false, true) := by
    unfold bodyOf
    simp [wd, h.1, h.2.1, h.2.2]
  have hs : standOf size (x :: L) = (2, 0, [], 0) := by
    unfold standOf
    rw [hb]
    simp
  conv => lhs; unfold nextOf
  rw [hs]
  simp

theorem digit_lt (n : Nat) (h : n < 16) : digit n < 256 := by unfold digit; split <;> omega
theorem may_lt {b : Nat} (h : may b = true) : b < 256 := by unfold may at h; simp at h; omega
/- The document's frames: a frame's bytes. -/
theorem frm_ret_bool {a b : Bool} (h : a = b) : Ending.returned (.bool a) = .returned (.bool b) := by rw [h]

/-- A literal row. -/
theorem own_lit {B : Nat} (w : World) (E : TypeId) (cs : Array Value) (ns : List Nat) (n : Nat) (hB : B ≤ w.heap.size) (hc : cs = (cellsOf .u8 ns).toArray) (hn : n = ns.length) (hm : ns.length ≤ maxLen) : Own B E .u8 (w.alloc (.cells cs E)) (.slice (some ⟨w.heap.size, 0, none⟩) n n) ns := by
  subst hc hn
  exact Own.lit w .u8 E B hB ns hm

def BytesTells (k : Nat) (ns : List Nat) (w : World) (e : Ending) (w' : World) : Prop :=
  ∃ v, e = .returned (.tuple #[v, .int .i64 (frameErr k ns : Nat)]) ∧ Own w.heap.size 5 .u8 w' v (frameBytes k ns) ∧ Grew w w'
theorem bytesTells_no {k : Nat} {ns : List Nat} {w w' : World} (x : Nat) (h : frameErr k ns = x) (h0 : x ≠ 0) (g : Grew w w') : BytesTells k ns w (.returned (.tuple #[.slice none 0 0, .int .i64 (x : Nat)])) w' := by
  refine ⟨_, by rw [h], ?_, g⟩
  unfold frameBytes
  rw [if_neg (by omega)]
  exact Own.nil _ _ _ _
theorem bytesTells_is {k : Nat} {ns : List Nat} {w w' : World} {v : Value} (h : frameErr k ns = 0) (ho : Own w.heap.size 5 .u8 w' v (frameRow k ns)) (g : Grew w w') : BytesTells k ns w (.returned (.tuple #[v, .int .i64 0])) w' := by
  refine ⟨v, by rw [h]; rfl, ?_, g⟩
  unfold frameBytes
  rw [if_pos h]
  exact ho


theorem own_base {B B' : Nat} {E : TypeId} {k : IntKind} {w : World} {v : Value} {ns : List Nat} (h : Own B E k w v ns) (hb : B' ≤ B) : Own B' E k w v ns := by
  obtain ⟨h1, h2⟩ := h
  refine ⟨h1, ?_⟩
  rcases h2 with h2 | ⟨b, cap, cur, e, hB, r⟩
  · exact .inl h2
  · exact .inr ⟨b, cap, cur, e, Nat.le_trans hb hB, r⟩
theorem fletB_lt (ns : List Nat) : fletB ns < 256 := by
  unfold fletB
  cases ns.length with
  | zero => simp [fletTo]
  | succ k => simp only [fletTo]; omega

end Go.Proofs.YtlcmjedbdopglaaGreatDoor

/-
  Frames as plain lists: their bytes, what stands at a begin, what is taken out.
  The document's frames: a frame's bytes.
  The document's frames: the bytes of the two kinds that count their bytes.
  The document's frames: what bytes begin.
  The document's frames: what bytes begin, whose length is there.
  The document's frames: what bytes begin, whose length is there, of the other kind.
  The document's frames: what bytes begin, of a sentence.
  The document's frames: what stands at a ring's begin.
  The document's frames: what stands at a ring's begin, its walk.
  The document's frames: what is taken out next.
  The document's frames: are they the same?
  What the program tells of frames; the page's examples out of it.
  The page's examples of frames.
  The walk of the law on no ring and on all frames, out of the contracts.
  The walk of the law on a frame's bytes, out of the contracts.
  Contracts of civil: years, leap years, lengths of months.
  Plain numbers of dates: the first day of a year and of a month. Nothing of the program.
  Contracts of civil: the first day of a month.
  Contracts of civil: the date of a number; numbers of dates; seconds and moments.
  Contracts of civil: numbers of dates; seconds and moments.
  Contracts of civil: the moment of a second.
  Contracts of the document's dates: leap years, lengths, numbers of dates.
  The known answers of civil; the walk of the law on dates.
  Contracts of the document's seconds and moments.
  The document's moment of a second.
  Every number of a day lies in one month; both moments of a second are the same one.
  Sentences that are written, as plain texts: digits, letters, bodies. Nothing of the program.
  DERIVED: THE SHELF's CONTRACTS AT THIS DUMP, IN PLAIN WORDS (tools/lay-plain.mjs out of 'TryzShelf.lean', which tools/lay-shelf.mjs wrote): THE SAME DECLARATIONS UNDER THE SAME NAMES: 'import', 'namespace', 'open', 'def', 'theorem' AND NOTHING ELSE: no command of the shelf's: FOR A HAND-IN. Each laying: the table of numbers ('.._ren') and one theorem, a field a fact of the dump's own or the kernel's comparison; each contract: ONE APPLICATION.
  The program's sentences: bytes of a body, digits, which command it is.
-/
import Derived.Test.YtcdmbnbanopioaaGreatDoorP02
import Derived.Test.YtcdmbnbanopioaaGreatDoorP07
import Derived.LoopTactic
import Derived.Deep.RegionHeld3
import Derived.Deep.DeepCutAuto
import Derived.Deep.RegionLaw
import Derived.Deep.RegionWith
import Derived.BigQuiet
import Derived.Deep.RegionHeldLaw
import Derived.StillTailTactics
import Derived.Lib.SlBytesConst
import Derived.OwnWalk
import Derived.Lib.ItoaNum
import Derived.Lib.Repeat
import Derived.Shelf.Strings.Builder1
import Derived.Shelf.Strings.Builder2
import Derived.Shelf.Strings.BuilderF
import Derived.Shelf.Strconv.Itoa0
import Derived.Shelf.Strconv.Itoa1
import Derived.Shelf.LaysM
import Derived.Shelf.Strconv.Itoa2
import Derived.Shelf.Strconv.Itoa3
import Derived.Shelf.Strings.Prefix
import Derived.Shelf.Bits.Mul64
import Derived.Shelf.Strings.Repeat
import Derived.Test.YtcdmbnbanopioaaGreatDoorProg
import Derived.Lib.ConvBytes
import Derived.Lib.AppendIntMem

namespace Go.Proofs.YtcdmbnbanopioaaGreatDoor
open Go.RowKit
set_option linter.unusedVariables false

/- Frames as plain lists: their bytes, what stands at a begin, what is taken out. -/
/-- May a byte stand in a sentence? A digit of a sum. -/
def may (b : Nat) : Bool := decide (32 ≤ b ∧ b ≤ 126 ∧ b ≠ 36 ∧ b ≠ 42)
def digit (n : Nat) : Nat := if n < 10 then 48 + n else 55 + n
/-- What the sums of a UBX frame go over. -/
def ubxRow (ns : List Nat) : List Nat := [wd ns 0, wd ns 1, (ns.length - 2) % 256, (ns.length - 2) / 256] ++ ns.drop 2
/-- The error of a frame's bytes, by its number; its bytes where there is none. -/
def frameErr (k : Nat) (ns : List Nat) : Nat :=
  if k = 1 then (if 76 < ns.length then 3 else if ns.all may = true then 0 else 5)
  else if k = 2 then (if ns.length < 2 then 4 else if 514 < ns.length then 3 else 0)
  else if k = 3 then (if 1023 < ns.length then 3 else 0)
  else 2
def frameRow (k : Nat) (ns : List Nat) : List Nat :=
  if k = 1 then 36 :: (ns ++ [42, digit (xorOf ns / 16), digit (xorOf ns % 16), 13, 10])
  else if k = 2 then [181, 98] ++ (ubxRow ns ++ [fletA (ubxRow ns), fletB (ubxRow ns)])
  else [160, 162, ns.length / 256, ns.length % 256] ++ (ns ++ [fifOf ns / 256, fifOf ns % 256, 176, 179])
def frameBytes (k : Nat) (ns : List Nat) : List Nat := if frameErr k ns = 0 then frameRow k ns else []

/-- The frame that bytes begin: its kind, its body as far as it is there; is it there; can it not be. -/
def bodyOf (size : Nat) (L : List Nat) : Nat × List Nat × Bool × Bool :=
  if wd L 0 = 36 then
    (if 76 < ((L.drop 1).takeWhile may).length then (1, (L.drop 1).takeWhile may, false, true)
     else (1, (L.drop 1).takeWhile may, decide (((L.drop 1).takeWhile may).length + 1 < L.length), false))
  else if wd L 0 = 181 then
    (if 1 < L.length ∧ wd L 1 ≠ 98 then (2, [], false, true)
     else if L.length < 6 then (2, [], false, false)
     else if 512 < wd L 4 + 256 * wd L 5 ∨ size < wd L 4 + 256 * wd L 5 + 8 then (2, [], false, true)
     else if L.length < 6 + (wd L 4 + 256 * wd L 5) then (2, [], false, false)
     else (2, wd L 2 :: wd L 3 :: (L.drop 6).take (wd L 4 + 256 * wd L 5), true, false))
  else if wd L 0 = 160 then
    (if 1 < L.length ∧ wd L 1 ≠ 162 then (3, [], false, true)
     else if L.length < 4 then (3, [], false, false)
     else if 1023 < 256 * wd L 2 + wd L 3 ∨ size < 256 * wd L 2 + wd L 3 + 8 then (3, [], false, true)
     else if L.length < 4 + (256 * wd L 2 + wd L 3) then (3, [], false, false)
     else (3, (L.drop 4).take (256 * wd L 2 + wd L 3), true, false))
  else (0, [], false, true)
/-- How far two rows are the same. -/
def common : List Nat → List Nat → Nat
  | x :: xs, y :: ys => if x = y then common xs ys + 1 else 0
  | _, _ => 0
/-- What stands at a begin: 0 short, 1 whole, 2 wrong; the frame and its length, where it is whole. -/
def standOf (size : Nat) (L : List Nat) : Nat × Nat × List Nat × Nat :=
  if L.length = 0 then (0, 0, [], 0)
  else if (bodyOf size L).2.2.2 = true then (2, 0, [], 0)
  else if (bodyOf size L).2.2.1 = true ∧ common (frameBytes (bodyOf size L).1 (bodyOf size L).2.1) L = (frameBytes (bodyOf size L).1 (bodyOf size L).2.1).length then
    (1, (bodyOf size L).1, (bodyOf size L).2.1, (frameBytes (bodyOf size L).1 (bodyOf size L).2.1).length)
  else if (bodyOf size L).2.2.1 = true ∧ common (frameBytes (bodyOf size L).1 (bodyOf size L).2.1) L < L.length then (2, 0, [], 0)
  else if L.length = size then (2, 0, [], 0)
  else (0, 0, [], 0)
/-- What is taken out next: the frame, if there is one; how many bytes were dropped as wrong; what is left. -/
def nextOf (size : Nat) : List Nat → Option (Nat × List Nat) × Nat × List Nat
  | [] => (none, 0, [])
  | x :: L =>
    if (standOf size (x :: L)).1 = 0 then (none, 0, x :: L)
    else if (standOf size (x :: L)).1 = 1 then (some ((standOf size (x :: L)).2.1, (standOf size (x :: L)).2.2.1), 0, (x :: L).drop (standOf size (x :: L)).2.2.2)
    else ((nextOf size L).1, (nextOf size L).2.1 + 1, (nextOf size L).2.2)
/-- All that is taken out, one behind the other. -/
inductive Took (size : Nat) : List Nat → List (Nat × List Nat) → Nat → List Nat → Prop where
  | none (L : List Nat) (h : (nextOf size L).1 = Option.none) : Took size L [] (nextOf size L).2.1 (nextOf size L).2.2
  | some (L : List Nat) (x : Nat × List Nat) (fs : List (Nat × List Nat)) (d : Nat) (R : List Nat) (h : (nextOf size L).1 = Option.some x) (t : Took size (nextOf size L).2.2 fs d R) : Took size L (x :: fs) ((nextOf size L).2.1 + d) R

theorem Took.det {size : Nat} {L : List Nat} {fs : List (Nat × List Nat)} {d : Nat} {R : List Nat} (h : Took size L fs d R) : ∀ {fs' : List (Nat × List Nat)} {d' : Nat} {R' : List Nat}, Took size L fs' d' R' → fs = fs' ∧ d = d' ∧ R = R' := by
  induction h with
  | none L h =>
    intro fs' d' R' k
    cases k with
    | none _ _ => exact ⟨rfl, rfl, rfl⟩
    | some _ x fs d R h' t => rw [h] at h'; cases h'
  | some L x fs d R h t ih =>
    intro fs' d' R' k
    cases k with
    | none _ h' => rw [h] at h'; cases h'
    | some _ x' fs1 d1 R1 h' t' =>
      rw [h] at h'
      obtain ⟨rfl, rfl, rfl⟩ := ih t'
      cases h'
      exact ⟨rfl, rfl, rfl⟩

theorem common_le (xs ys : List Nat) : common xs ys ≤ xs.length ∧ common xs ys ≤ ys.length := by
  induction xs generalizing ys with
  | nil => simp [common]
  | cons x xs ih =>
    cases ys with
    | nil => simp [common]
    | cons y ys =>
      unfold common
      have := ih ys
      split <;> simp <;> omega
theorem common_self (xs ys : List Nat) : common xs (xs ++ ys) = xs.length := by
  induction xs with
  | nil => simp [common]
  | cons x xs ih => simp [common, ih]
/-- As it is reckoned: place by place. -/
theorem common_eq (xs ys : List Nat) (n : Nat) (h : ∀ i, i < n → wd xs i = wd ys i) (hx : n ≤ xs.length) (hy : n ≤ ys.length) (he : n = xs.length ∨ n = ys.length ∨ wd xs n ≠ wd ys n) : common xs ys = n := by
  induction xs generalizing ys n with
  | nil => simp at hx; simp [common, hx]
  | cons x xs ih =>
    cases ys with
    | nil => simp at hy; simp [common, hy]
    | cons y ys =>
      cases n with
      | zero =>
        rcases he with he | he | he
        · simp at he
        · simp at he
        · simp [wd] at he
          simp [common, he]
      | succ n =>
        have h0 := h 0 (by omega)
        simp [wd] at h0
        have := ih ys n (fun i hi => by have := h (i + 1) (by omega); simpa [wd] using this) (by simpa using hx) (by simpa using hy) (by
          rcases he with he | he | he
          · left; simpa using he
          · right; left; simpa using he
          · right; right; simpa [wd] using he)
        simp [common, h0, this]

theorem nextOf_length (size : Nat) (L : List Nat) : (nextOf size L).2.2.length ≤ L.length := by
  induction L with
  | nil => simp [nextOf]
  | cons x L ih =>
    unfold nextOf
    split
    · simp
    · split
      · simp [List.length_drop]
      · simp; omega
theorem takeWhile_all (ns rest : List Nat) (p : Nat → Bool) (x : Nat) (h : ns.all p = true) (hx : p x = false) : (ns ++ x :: rest).takeWhile p = ns := by
  induction ns with
  | nil => simp [hx]
  | cons a ns ih =>
    simp only [List.all_cons, Bool.and_eq_true] at h
    simp [h.1, ih h.2]

/-- A frame that has bytes is whole where they stand, if there is room for so long a one. -/
theorem stand_whole (size : Nat) (k : Nat) (ns rest : List Nat) (he : frameErr k ns = 0) (hs : (frameRow k ns).length ≤ size) : standOf size (frameRow k ns ++ rest) = (1, k, ns, (frameRow k ns).length) := by
  have hb : bodyOf size (frameRow k ns ++ rest) = (k, ns, true, false) := by
    unfold frameErr at he
    by_cases h1 : k = 1
    · subst h1
      simp only [if_true] at he
      have hl : ns.length ≤ 76 := by by_cases h : 76 < ns.length <;> simp_all <;> omega
      have ha : ns.all may = true := by by_cases h : 76 < ns.length <;> simp_all
      have ht : ((frameRow 1 ns ++ rest).drop 1).takeWhile may = ns := by
        simp only [frameRow, if_true, List.cons_append, List.drop_succ_cons, List.drop_zero, List.append_assoc]
        exact takeWhile_all ns _ may 42 ha (by decide)
      unfold bodyOf
      rw [ht, if_pos (by simp [frameRow, wd]), if_neg (by omega)]
      simp [frameRow]
    · by_cases h2 : k = 2
      · subst h2
        simp only [show ¬ (2 : Nat) = 1 by omega, if_false, if_true] at he
        have hl : 2 ≤ ns.length ∧ ns.length ≤ 514 := by by_cases h : ns.length < 2 <;> by_cases h' : 514 < ns.length <;> simp_all <;> omega
        obtain ⟨a, b, t, rfl⟩ : ∃ a b t, ns = a :: b :: t := by
          match ns, hl with
          | a :: b :: t, _ => exact ⟨a, b, t, rfl⟩
        simp only [List.length_cons] at hl
        have e : frameRow 2 (a :: b :: t) ++ rest = 181 :: 98 :: a :: b :: (t.length % 256) :: (t.length / 256) :: (t ++ (fletA (ubxRow (a :: b :: t)) :: fletB (ubxRow (a :: b :: t)) :: rest)) := by
          simp [frameRow, ubxRow, wd]
        have hlen : (frameRow 2 (a :: b :: t)).length = t.length + 8 := by simp [frameRow, ubxRow]
        rw [hlen] at hs
        rw [e]
        unfold bodyOf
        have hd : t.length % 256 + 256 * (t.length / 256) = t.length := by omega
        simp only [wd, List.getD_cons_zero, List.getD_cons_succ, hd]
        simp [show ¬ 512 < t.length by omega, show ¬ size < t.length + 8 by omega]
        split <;> simp_all <;> omega
      · by_cases h3 : k = 3
        · subst h3
          simp only [show ¬ (3 : Nat) = 1 by omega, show ¬ (3 : Nat) = 2 by omega, if_false, if_true] at he
          have hl : ns.length ≤ 1023 := by by_cases h : 1023 < ns.length <;> simp_all <;> omega
          have e : frameRow 3 ns ++ rest = 160 :: 162 :: (ns.length / 256) :: (ns.length % 256) :: (ns ++ (fifOf ns / 256 :: fifOf ns % 256 :: 176 :: 179 :: rest)) := by
            simp [frameRow]
          have hlen : (frameRow 3 ns).length = ns.length + 8 := by simp [frameRow]
          rw [hlen] at hs
          rw [e]
          unfold bodyOf
          have hd : 256 * (ns.length / 256) + ns.length % 256 = ns.length := by omega
          simp only [wd, List.getD_cons_zero, List.getD_cons_succ, hd]
          simp [show ¬ 1023 < ns.length by omega, show ¬ size < ns.length + 8 by omega]
          split <;> simp_all <;> omega
        · simp [h1, h2, h3] at he
  have hr : frameBytes k ns = frameRow k ns := by unfold frameBytes; rw [if_pos he]
  have h0 : ¬ (frameRow k ns ++ rest).length = 0 := by
    unfold frameRow
    split <;> try split
    all_goals simp
  unfold standOf
  rw [if_neg h0, hb]
  simp only [hr, common_self]
  simp
theorem row_pos (k : Nat) (ns : List Nat) : ∃ x L, frameRow k ns = x :: L := by
  unfold frameRow
  split
  · exact ⟨_, _, rfl⟩
  · split
    · exact ⟨_, _, rfl⟩
    · exact ⟨_, _, rfl⟩
theorem next_whole (size : Nat) (k : Nat) (ns rest : List Nat) (he : frameErr k ns = 0) (hs : (frameRow k ns).length ≤ size) : nextOf size (frameRow k ns ++ rest) = (some (k, ns), 0, rest) := by
  have h := stand_whole size k ns rest he hs
  obtain ⟨x, L, e⟩ := row_pos k ns
  have hd : (frameRow k ns ++ rest).drop (frameRow k ns).length = rest := by simp
  rw [e, List.cons_append] at h hd ⊢
  unfold nextOf
  rw [h]
  simp only [Nat.one_ne_zero, if_false, if_true]
  rw [hd]
/-- A byte that begins no frame is dropped. -/
theorem next_between (size x : Nat) (L : List Nat) (h : x ≠ 36 ∧ x ≠ 181 ∧ x ≠ 160) : nextOf size (x :: L) = ((nextOf size L).1, (nextOf size L).2.1 + 1, (nextOf size L).2.2) := by
  have hb : bodyOf size (x :: L) = (0, [], false, true) := by
    unfold bodyOf
    simp [wd, h.1, h.2.1, h.2.2]
  have hs : standOf size (x :: L) = (2, 0, [], 0) := by
    unfold standOf
    rw [hb]
    simp
  conv => lhs; unfold nextOf
  rw [hs]
  simp

theorem digit_lt (n : Nat) (h : n < 16) : digit n < 256 := by unfold digit; split <;> omega
theorem may_lt {b : Nat} (h : may b = true) : b < 256 := by unfold may at h; simp at h; omega
/- The document's frames: a frame's bytes. -/
theorem frm_ret_bool {a b : Bool} (h : a = b) : Ending.returned (.bool a) = .returned (.bool b) := by rw [h]
theorem ref08_May (x : Nat) (w : World) (hx : x < 256) : Calls Tryz.prog 75 #[.int .u8 x] w fun e w' => e = .returned (.bool (may x)) ∧ w = w' := by
  have hm : may x = (decide ((32 : Int) ≤ x) && decide ((x : Int) ≤ 126) && decide ((x : Int) ≠ 36) && decide ((x : Int) ≠ 42)) := by
    unfold may
    rw [Bool.eq_iff_iff]
    simp
    omega
  rw [hm]
  clear hm
  go_enter Tryz.func75, Tryz.ntmps75
  go_wp2
  all_goals go_ret
  all_goals (refine ⟨frm_ret_bool ?_, rfl⟩; rw [Bool.eq_iff_iff]; simp)
  all_goals omega
theorem ref08_Digit (n : Nat) (w : World) (hn : n < 16) : Calls Tryz.prog 77 #[.int .u8 n] w fun e w' => e = .returned (.int .u8 (digit n : Nat)) ∧ w = w' := by
  by_cases h : n < 10
  · have hd : ((digit n : Nat) : Int) = 48 + n := by unfold digit; rw [if_pos h]; omega
    rw [hd]
    go_enter Tryz.func77, Tryz.ntmps77
    go_wp2_with fail
    go_ret
    exact ⟨rfl, rfl⟩
  · have hd : ((digit n : Nat) : Int) = 65 + n - 10 := by unfold digit; rw [if_neg h]; omega
    rw [hd]
    go_enter Tryz.func77, Tryz.ntmps77
    go_wp2_with fail
    go_ret
    exact ⟨rfl, rfl⟩

/-- A literal row. -/
theorem own_lit {B : Nat} (w : World) (E : TypeId) (cs : Array Value) (ns : List Nat) (n : Nat) (hB : B ≤ w.heap.size) (hc : cs = (cellsOf .u8 ns).toArray) (hn : n = ns.length) (hm : ns.length ≤ maxLen) : Own B E .u8 (w.alloc (.cells cs E)) (.slice (some ⟨w.heap.size, 0, none⟩) n n) ns := by
  subst hc hn
  exact Own.lit w .u8 E B hB ns hm

def BytesTells (k : Nat) (ns : List Nat) (w : World) (e : Ending) (w' : World) : Prop :=
  ∃ v, e = .returned (.tuple #[v, .int .i64 (frameErr k ns : Nat)]) ∧ Own w.heap.size 5 .u8 w' v (frameBytes k ns) ∧ Grew w w'
theorem bytesTells_no {k : Nat} {ns : List Nat} {w w' : World} (x : Nat) (h : frameErr k ns = x) (h0 : x ≠ 0) (g : Grew w w') : BytesTells k ns w (.returned (.tuple #[.slice none 0 0, .int .i64 (x : Nat)])) w' := by
  refine ⟨_, by rw [h], ?_, g⟩
  unfold frameBytes
  rw [if_neg (by omega)]
  exact Own.nil _ _ _ _
theorem bytesTells_is {k : Nat} {ns : List Nat} {w w' : World} {v : Value} (h : frameErr k ns = 0) (ho : Own w.heap.size 5 .u8 w' v (frameRow k ns)) (g : Grew w w') : BytesTells k ns w (.returned (.tuple #[v, .int .i64 0])) w' := by
  refine ⟨v, by rw [h]; rfl, ?_, g⟩
  unfold frameBytes
  rw [if_pos h]
  exact ho

theorem ref08_Bytes0 (k : Nat) (fv : Value) (ns : List Nat) (w : World) (hR : Row .u8 w fv ns) (hl : ns.length ≤ 5000) (hk : k < 256) (h1 : k ≠ 1) (h2 : k ≠ 2) (h3 : k ≠ 3) :
    Calls Tryz.prog 50 #[.agg #[.int .u8 k, fv]] w (BytesTells k ns w) := by
  have he : frameErr k ns = 2 := by unfold frameErr; rw [if_neg h1, if_neg h2, if_neg h3]
  have H := fun w' (g : Grew w w') => Lib.hid (bytesTells_no 2 he (by omega) g)
  obtain ⟨A, c, rfl, hc⟩ := hR.form
  have k1 : ¬ (k : Int) = 1 := by omega
  have k2 : ¬ (k : Int) = 2 := by omega
  have k3 : ¬ (k : Int) = 3 := by omega
  clear he h1 h2 h3 hR
  go_enter Tryz.func50, Tryz.ntmps50
  go_wp2_with fail
  go_ret2
  exact (H _ ((Grew.refl w).alloc _)).out

set_option maxRecDepth 100000 in
set_option maxHeartbeats 2000000 in
theorem ref08_Bytes1 (fv : Value) (ns : List Nat) (w : World) (hR : Row .u8 w fv ns) (hB : Bytes ns) (hl : ns.length ≤ 5000) :
    Calls Tryz.prog 50 #[.agg #[.int .u8 1, fv]] w (BytesTells 1 ns w) := by
  obtain ⟨A, c, rfl, hc⟩ := hR.form
  by_cases h76 : 76 < ns.length
  · have H := fun w' (g : Grew w w') => Lib.hid (bytesTells_no (k := 1) (ns := ns) 3 (by unfold frameErr; simp [h76]) (by omega) g)
    go_enter Tryz.func50, Tryz.ntmps50
    go_wp2_with fail
    go_ret2
    exact (H _ ((Grew.refl w).alloc _)).out
  · have HR := Lib.hid hR
    have HB := Lib.hid hB
    have HM := fun x w hx => Lib.hid (ref08_May x w hx)
    have HD := fun x w hx => Lib.hid (ref08_Digit x w hx)
    clear hB hR
    go_enter Tryz.func50, Tryz.ntmps50
    go_wp2_with fail
    have G : Grew w (w.alloc (.cells #[.int .u8 1, .slice A ns.length c] 49)) := (Grew.refl w).alloc _
    have k1 : (w.alloc (.cells #[.int .u8 1, .slice A ns.length c] 49)).cell? ⟨w.heap.size, 1, none⟩ = some (.slice A ns.length c) := by simp
    generalize (w.alloc (.cells #[.int .u8 1, .slice A ns.length c] 49)) = W at *
    go_loop [6] (fun i => ∃ j : Nat, j ≤ ns.length ∧ i = .int .i64 (j : Nat) ∧ Hid (∀ i, i < j → may (wd ns i) = true)) (fun i => ns.length - (intOf i).toNat)
    case atStart => exact ⟨0, by omega, rfl, fun i hi => by omega⟩
    case round =>
      obtain ⟨j, hj, rfl, hM⟩ := hrel
      by_cases hlt : j < ns.length
      · have hr := HR.out.grew G
        obtain ⟨Ax, cx, e0, hcx, hr⟩ := hr
        simp only [Value.slice.injEq] at e0
        obtain ⟨rfl, -, rfl⟩ := e0
        obtain ⟨rb, ro, rfl, hrb, hcell⟩ := hr (by omega)
        have y0 := hcell j (by omega)
        have hx256 := HB.out j
        clear hcell hcx hr hrb
        by_cases hmay : may (wd ns j) = true
        · have H1 := fun w => (HM (wd ns j) w hx256).out
          rw [hmay] at H1
          have HS : Hid (∀ i, i < j + 1 → may (wd ns i) = true) := fun i hi => by
            rcases Nat.lt_or_ge i j with h | h
            · exact hM.out i h
            · obtain rfl : i = j := by omega
              exact hmay
          have H1' := fun w => Lib.hid (H1 w)
          clear H1 hM hmay
          generalize wd ns j = x at *
          go_wp2_with fail
          refine (H1' _).out.mono ?_
          rintro e w1 ⟨rfl, rfl⟩
          go_wp2_with fail
          go_round
          case rel => exact ⟨j + 1, by omega, by simp, HS⟩
          case measure => simp [intOf]; omega
        · have hmf : may (wd ns j) = false := by simpa using hmay
          have H1 := fun w => (HM (wd ns j) w hx256).out
          rw [hmf] at H1
          have H1' := fun w => Lib.hid (H1 w)
          have H := fun w' (g : Grew w w') => Lib.hid (bytesTells_no (k := 1) (ns := ns) 5 (by
            unfold frameErr
            have : ¬ ns.all may = true := fun h => by
              rw [List.all_eq_true] at h
              rw [wd_lt hlt] at hmf
              rw [h _ (List.getElem_mem hlt)] at hmf
              cases hmf
            simp only [if_true, if_neg h76, if_neg this]) (by omega) g)
          clear H1 hM hmay hmf
          generalize wd ns j = x at *
          go_wp2_with fail
          refine (H1' _).out.mono ?_
          rintro e w1 ⟨rfl, rfl⟩
          go_wp2_with fail
          go_ret2
          exact (H _ G).out
      · obtain rfl : j = ns.length := by omega
        have hE : frameErr 1 ns = 0 := by
          unfold frameErr
          have : ns.all may = true := by
            rw [List.all_eq_true]
            intro x hx
            obtain ⟨i, hi, rfl⟩ := List.getElem_of_mem hx
            have := hM.out i hi
            rwa [wd_lt hi] at this
          simp only [if_true, if_neg h76, if_pos this]
        have hr := HR.out.grew G
        have HX := Lib.hid (ref07_Xor _ ns W hr HB.out (by omega))
        have hO0 := own_lit (B := w.heap.size) W 5 #[.int .u8 36] [36] 1 G.size rfl rfl (by decide)
        have G1 := G.alloc (.cells #[.int .u8 36] 5)
        have hR1 := hr.grew ((Grew.refl W).alloc (.cells #[.int .u8 36] 5))
        have k2 := ((((Grew.refl W).alloc (.cells #[.int .u8 36] 5)).cell (p := ⟨w.heap.size, 1, none⟩) (World.block_lt_of_cell? W _ k1)).trans k1)
        have hx : xorOf ns < 256 := xorTo_lt HB.out ns.length
        have HF := fun v w' (ho : Own w.heap.size 5 .u8 w' v (frameRow 1 ns)) g => Lib.hid (bytesTells_is hE ho g)
        simp only [frameRow, if_true] at HF
        generalize xorOf ns = x at *
        have HD1 : ∀ w, Hid (Calls Tryz.prog 77 #[.int .u8 ((x : Int) / 16)] w fun e w' => e = .returned (.int .u8 (digit (x / 16) : Nat)) ∧ w = w') := fun w => by
          have := (HD (x / 16) w (by omega)).out
          rw [show (((x / 16 : Nat)) : Int) = (x : Int) / 16 by omega] at this
          exact this
        have HD2 : ∀ w, Hid (Calls Tryz.prog 77 #[.int .u8 ((x : Int) % 16)] w fun e w' => e = .returned (.int .u8 (digit (x % 16) : Nat)) ∧ w = w') := fun w => by
          have := (HD (x % 16) w (by omega)).out
          rw [show (((x % 16 : Nat)) : Int) = (x : Int) % 16 by omega] at this
          exact this
        generalize digit (x / 16) = d1 at *
        generalize digit (x % 16) = d2 at *
        clear hM HM HB HR hr hE HD
        go_wp2_with fail
        refine HX.out.mono ?_
        rintro e w1 ⟨rfl, rfl⟩
        go_wp2_with (refine wpList_joinN _ rfl _ _ 25 rfl w.heap.size 5 .u8 1 Tryz.underlying25 infoU8 (.slice (some ⟨W.heap.size, 0, none⟩) 1 1) [36] rfl hO0 _ ns rfl hR1 (by simp; omega) (by decide) (by have := G1.size; omega) ?_; intro v1 w1 hown hgrow hnil)
        have G2 := Grew.push G1 hO0 hgrow
        go_wp2_with fail
        refine (HD1 _).out.mono ?_
        rintro e w2 ⟨rfl, rfl⟩
        go_wp2_with fail
        refine (HD2 _).out.mono ?_
        rintro e w2 ⟨rfl, rfl⟩
        have hO1 := hown.alloc (.cells #[.int .u8 42, .int .u8 d1, .int .u8 d2, .int .u8 13, .int .u8 10] 5)
        have hR2 := (own_lit (B := 0) w1 5 #[.int .u8 42, .int .u8 d1, .int .u8 d2, .int .u8 13, .int .u8 10] [42, d1, d2, 13, 10] 5 (Nat.zero_le _) rfl rfl (by simp [maxLen])).row
        go_wp2_with (refine wpList_joinN _ rfl _ _ 25 rfl w.heap.size 5 .u8 1 Tryz.underlying25 infoU8 v1 ([36] ++ ns) rfl hO1 _ [42, d1, d2, 13, 10] rfl hR2 (by simp; omega) (by decide) (by have := (G2.alloc (.cells #[.int .u8 42, .int .u8 d1, .int .u8 d2, .int .u8 13, .int .u8 10] 5)).size; omega) ?_; intro v2 w2 hown2 hgrow2 hnil2)
        go_ret2
        exact (HF _ _ (by simpa using hown2) (Grew.push (G2.alloc _) hO1 hgrow2)).out
/- The document's frames: the bytes of the two kinds that count their bytes. -/
theorem own_base {B B' : Nat} {E : TypeId} {k : IntKind} {w : World} {v : Value} {ns : List Nat} (h : Own B E k w v ns) (hb : B' ≤ B) : Own B' E k w v ns := by
  obtain ⟨h1, h2⟩ := h
  refine ⟨h1, ?_⟩
  rcases h2 with h2 | ⟨b, cap, cur, e, hB, r⟩
  · exact .inl h2
  · exact .inr ⟨b, cap, cur, e, Nat.le_trans hb hB, r⟩
theorem fletB_lt (ns : List Nat) : fletB ns < 256 := by
  unfold fletB
  cases ns.length with
  | zero => simp [fletTo]
  | succ k => simp only [fletTo]; omega
set_option maxRecDepth 100000 in
set_option maxHeartbeats 2000000 in
theorem ref08_Bytes3 (fv : Value) (ns : List Nat) (w : World) (hR : Row .u8 w fv ns) (hB : Bytes ns) (hl : ns.length ≤ 5000) :
    Calls Tryz.prog 50 #[.agg #[.int .u8 3, fv]] w (BytesTells 3 ns w) := by
  obtain ⟨A, c, rfl, hc⟩ := hR.form
  by_cases hlong : 1023 < ns.length
  · have H := fun w' (g : Grew w w') => Lib.hid (bytesTells_no (k := 3) (ns := ns) 3 (by unfold frameErr; simp [hlong]) (by omega) g)
    go_enter Tryz.func50, Tryz.ntmps50
    go_wp2_with fail
    go_ret2
    exact (H _ ((Grew.refl w).alloc _)).out
  · have hE : frameErr 3 ns = 0 := by unfold frameErr; simp [hlong]
    have hx : fifOf ns < 32768 := by unfold fifOf; omega
    have HF := fun v w' (ho : Own w.heap.size 5 .u8 w' v (frameRow 3 ns)) g => Lib.hid (bytesTells_is hE ho g)
    simp only [frameRow, show ¬ (3 : Nat) = 1 by omega, show ¬ (3 : Nat) = 2 by omega, if_false] at HF
    have HX := fun w' (g : Grew w w') => Lib.hid (ref07_Fifteen _ ns w' (hR.grew g) hB (by omega))
    have HR := Lib.hid hR
    generalize fifOf ns = x at *
    clear hB hR hE
    go_enter Tryz.func50, Tryz.ntmps50
    go_wp2_with fail
    have G : Grew w (w.alloc (.cells #[.int .u8 3, .slice A ns.length c] 49)) := (Grew.refl w).alloc _
    have k1 : (w.alloc (.cells #[.int .u8 3, .slice A ns.length c] 49)).cell? ⟨w.heap.size, 1, none⟩ = some (.slice A ns.length c) := by simp
    generalize (w.alloc (.cells #[.int .u8 3, .slice A ns.length c] 49)) = W at *
    refine (HX _ G).out.mono ?_
    rintro e w1 ⟨rfl, rfl⟩
    have k2 := fun o => ((((Grew.refl W).alloc o).cell (p := ⟨w.heap.size, 1, none⟩) (World.block_lt_of_cell? W _ k1)).trans k1)
    have hs0 : w.heap.size ≤ W.heap.size := G.size
    have hO0 := own_lit (B := w.heap.size) W 5 #[.int .u8 160, .int .u8 162, .int .u8 ((ns.length : Int) / 256), .int .u8 ((ns.length : Int) % 256)] [160, 162, ns.length / 256, ns.length % 256] 4 hs0 (by simp [cellsOf]) rfl (by simp [maxLen])
    have k2' := k2 (.cells #[.int .u8 160, .int .u8 162, .int .u8 ((ns.length : Int) / 256), .int .u8 ((ns.length : Int) % 256)] 5)
    have G1 := G.alloc (.cells #[.int .u8 160, .int .u8 162, .int .u8 ((ns.length : Int) / 256), .int .u8 ((ns.length : Int) % 256)] 5)
    have hR1 := HR.out.grew G1
    clear k2 HR HX
    have HL := fun w' => Lib.hid (own_lit (B := 0) w' 5 #[.int .u8 ((x : Int) / 256), .int .u8 ((x : Int) % 256), .int .u8 176, .int .u8 179] [x / 256, x % 256, 176, 179] 4 (Nat.zero_le _) (by simp [cellsOf]) rfl (by simp [maxLen])).row
    go_wp2_with (first | (refine wpList_joinN _ rfl _ _ 25 rfl w.heap.size 5 .u8 1 Tryz.underlying25 infoU8 (.slice (some ⟨W.heap.size, 0, none⟩) 4 4) _ rfl hO0 _ ns rfl hR1 (by simp; omega) (by decide) (by have := G1.size; omega) ?_; intro v1 w1 hown hgrow hnil; have G2 := Grew.push G1 hO0 hgrow) | (refine wpList_joinN _ rfl _ _ 25 rfl w.heap.size 5 .u8 1 Tryz.underlying25 infoU8 v1 _ rfl (hown.alloc _) _ [x / 256, x % 256, 176, 179] rfl (HL w1).out (by simp; omega) (by decide) (by have := (G2.alloc (.cells #[] 5)).size; simp at this ⊢; omega) ?_; intro v2 w2 hown2 hgrow2 hnil2))
    go_ret2
    exact (HF _ _ (by rw [← List.append_assoc]; exact hown2) (Grew.push (G2.alloc _) (hown.alloc _) hgrow2)).out

set_option maxRecDepth 100000 in
set_option maxHeartbeats 2000000 in
theorem ref08_Bytes2 (fv : Value) (ns : List Nat) (w : World) (hR : Row .u8 w fv ns) (hB : Bytes ns) (hl : ns.length ≤ 5000) :
    Calls Tryz.prog 50 #[.agg #[.int .u8 2, fv]] w (BytesTells 2 ns w) := by
  obtain ⟨A, c, rfl, hc⟩ := hR.form
  by_cases hshort : ns.length < 2
  · have H := fun w' (g : Grew w w') => Lib.hid (bytesTells_no (k := 2) (ns := ns) 4 (by unfold frameErr; simp [hshort]) (by omega) g)
    go_enter Tryz.func50, Tryz.ntmps50
    go_wp2_with fail
    go_ret2
    exact (H _ ((Grew.refl w).alloc _)).out
  · by_cases hlong : 514 < ns.length
    · have H := fun w' (g : Grew w w') => Lib.hid (bytesTells_no (k := 2) (ns := ns) 3 (by unfold frameErr; simp [hshort, hlong]) (by omega) g)
      go_enter Tryz.func50, Tryz.ntmps50
      go_wp2_with fail
      go_ret2
      exact (H _ ((Grew.refl w).alloc _)).out
    · have hE : frameErr 2 ns = 0 := by unfold frameErr; simp [hshort, hlong]
      have HF := fun v w' (ho : Own w.heap.size 5 .u8 w' v (frameRow 2 ns)) g => Lib.hid (bytesTells_is hE ho g)
      have e2 : frameRow 2 ns = [181, 98] ++ ubxRow ns ++ [fletA (ubxRow ns), fletB (ubxRow ns)] := by unfold frameRow; simp
      rw [e2] at HF
      have hub : ubxRow ns = [wd ns 0, wd ns 1, (ns.length - 2) % 256, (ns.length - 2) / 256] ++ ns.drop 2 := rfl
      have hbu : Bytes (ubxRow ns) := by
        rw [hub]
        refine Bytes.of_mem (fun x hx => ?_)
        simp only [List.mem_append, List.mem_cons, List.not_mem_nil, or_false] at hx
        rcases hx with (rfl | rfl | rfl | rfl) | h
        · exact hB 0
        · exact hB 1
        · omega
        · omega
        · obtain ⟨i, hi, rfl⟩ := List.getElem_of_mem (List.mem_of_mem_drop h)
          have := hB i
          rwa [wd_lt hi] at this
      have hul : (ubxRow ns).length = ns.length + 2 := by rw [hub]; simp; omega
      have hfa : fletA (ubxRow ns) < 256 := by unfold fletA; omega
      have hfb := fletB_lt (ubxRow ns)
      have HX := fun v w' (h : Row .u8 w' v (ubxRow ns)) => Lib.hid (ref07_Fletcher v (ubxRow ns) w' h hbu (by omega))
      have hR' := hR
      obtain ⟨Ax, cx, e0, hcx, hr⟩ := hR'
      simp only [Value.slice.injEq] at e0
      obtain ⟨rfl, -, rfl⟩ := e0
      obtain ⟨rb, ro, rfl, hrb, hcell⟩ := hr (by omega)
      have y0 := hcell 0 (by omega)
      have y1 := hcell 1 (by omega)
      rw [Nat.add_zero] at y0
      have hcut := hR.cut 2 (by omega)
      have h0 := hB 0
      have h1 := hB 1
      have hn2 : (2 : Int) ≤ ns.length := by omega
      have hn0 : (0 : Int) < ns.length := by omega
      have hn1 : (1 : Int) < ns.length := by omega
      have p0 : 0 < ns.length := by omega
      have p1 : 1 < ns.length := by omega
      have p2 : 2 ≤ ns.length := by omega
      have p3 : 2 ≤ c := by omega
      have e1 : IntKind.i64.wrap ((ns.length : Int) - 2) = (ns.length : Int) - 2 := IntWalk.i64_in _ (by omega)
      have e3 : ((ns.length : Int) - 2).tmod 256 = (((ns.length - 2) % 256 : Nat) : Int) := by rw [Int.tmod_eq_emod_of_nonneg (by omega)]; omega
      have e4 : ((ns.length : Int) - 2).tdiv 256 = (((ns.length - 2) / 256 : Nat) : Int) := by rw [Int.tdiv_eq_ediv_of_nonneg (by omega)]; omega
      have b1 : (ns.length - 2) % 256 < 256 := by omega
      have b2 : (ns.length - 2) / 256 < 256 := by omega
      have HUB := Lib.hid hub
      have HUL := Lib.hid hul
      have HCUT := fun w' (g : Grew w w') => Lib.hid (hcut.grew g)
      have HY : ∀ w', Grew w w' → Hid (w'.cell? ⟨rb, ro, none⟩ = some (.int .u8 (wd ns 0 : Nat)) ∧ w'.cell? ⟨rb, ro + 1, none⟩ = some (.int .u8 (wd ns 1 : Nat))) := fun w' g => Lib.hid ⟨(g.cell (p := ⟨rb, ro, none⟩) hrb).trans y0, (g.cell (p := ⟨rb, ro + 1, none⟩) hrb).trans y1⟩
      clear hub hul hcut y0 y1 hcell hr hR hE e2 hbu hB hrb hcx
      generalize ubxRow ns = u at *
      generalize fletA u = fa at *
      generalize fletB u = fb at *
      generalize wd ns 0 = x0 at *
      generalize wd ns 1 = x1 at *
      generalize (ns.length - 2) % 256 = m1 at *
      generalize (ns.length - 2) / 256 = m2 at *
      have e5 : IntKind.u8.wrap (m1 : Int) = m1 := IntWalk.u8_in _ (by omega)
      have e6 : IntKind.u8.wrap (m2 : Int) = m2 := IntWalk.u8_in _ (by omega)
      have e7 : IntKind.i64.wrap (m2 : Int) = m2 := IntWalk.i64_in _ (by omega)
      have HO := fun B w' hB => Lib.hid ((own_lit (B := B) w' 5 #[.int .u8 x0, .int .u8 x1, .int .u8 m1, .int .u8 m2] [x0, x1, m1, m2] 4 hB rfl rfl (by simp [maxLen])).drew)
      rcases Decidable.em (c = 2) with hc2 | hc2
      · subst hc2
        simp only [if_true, show ns.length - 2 = 0 by omega, Nat.sub_self] at HCUT
        go_enter Tryz.func50, Tryz.ntmps50
        go_wp2_with fail
        have G : Grew w (w.alloc (.cells #[.int .u8 2, .slice (some ⟨rb, ro, none⟩) ns.length 2] 49)) := (Grew.refl w).alloc _
        have k1 : (w.alloc (.cells #[.int .u8 2, .slice (some ⟨rb, ro, none⟩) ns.length 2] 49)).cell? ⟨w.heap.size, 1, none⟩ = some (.slice (some ⟨rb, ro, none⟩) ns.length 2) := by simp
        generalize (w.alloc (.cells #[.int .u8 2, .slice (some ⟨rb, ro, none⟩) ns.length 2] 49)) = W at *
        have hws := World.block_lt_of_cell? W _ k1
        have KS : ∀ w', Grew W w' → Hid (w'.cell? ⟨w.heap.size, 1, none⟩ = some (.slice (some ⟨rb, ro, none⟩) ns.length 2) ∧ w'.cell? ⟨rb, ro, none⟩ = some (.int .u8 x0) ∧ w'.cell? ⟨rb, ro + 1, none⟩ = some (.int .u8 x1)) := fun w' g =>
          Lib.hid ⟨(g.cell (p := ⟨w.heap.size, 1, none⟩) hws).trans k1, (HY w' (G.trans g)).out.1, (HY w' (G.trans g)).out.2⟩
        have HO1 := HO W.heap.size W (Nat.le_refl _)
        have GW := ((Grew.refl W).alloc (.cells #[.int .u8 x0, .int .u8 x1, .int .u8 m1, .int .u8 m2] 5)).drew
        have HC := HCUT _ (G.trans GW)
        clear HY HO HCUT
        go_region_held3 (fun w' => w'.cell? ⟨w.heap.size, 1, none⟩ = some (.slice (some ⟨rb, ro, none⟩) ns.length 2) ∧ w'.cell? ⟨rb, ro, none⟩ = some (.int .u8 x0) ∧ w'.cell? ⟨rb, ro + 1, none⟩ = some (.int .u8 x1)) (first | exact (KS _ D).out | exact (KS _ GW).out | exact (KS _ (Grew.refl W).drew).out) (first | (refine step_joinN _ rfl _ _ 25 rfl W.heap.size 5 .u8 1 Tryz.underlying25 infoU8 _ _ rfl HO1.out _ (ns.drop 2) rfl HC.out (by simp; omega) (by decide) GW.size ?_; intro v1 w1 hown hgrow hnil; have D := Grew.push GW HO1.out hgrow))
        rw [← HUB.out] at hown
        have GD := G.trans D
        have hO1 := own_base hown G.size
        have HL1 := own_lit (B := w.heap.size) w1 5 #[.int .u8 181, .int .u8 98] [181, 98] 2 GD.size rfl rfl (by simp [maxLen])
        have HL2 := fun w' => Lib.hid (own_lit (B := 0) w' 5 #[.int .u8 fa, .int .u8 fb] [fa, fb] 2 (Nat.zero_le _) rfl rfl (by simp [maxLen])).row
        have hR1 := (hO1.alloc (.cells #[.int .u8 181, .int .u8 98] 5)).row
        have G1 := GD.alloc (.cells #[.int .u8 181, .int .u8 98] 5)
        have HX1 := HX _ _ hO1.row
        have hul := HUL.out
        clear KS HO1 GW HC HX HUB hgrow hnil hown G D k1 hws HUL e1 e3 e4 e5 e6 e7 b1 b2 p0 p1 p2 p3 hn0 hn1 hn2 h0 h1
        go_wp2_with fail
        refine HX1.out.mono ?_
        rintro e w2 ⟨rfl, rfl⟩
        go_wp2_with (first | (refine wpList_joinN _ rfl _ _ 25 rfl w.heap.size 5 .u8 1 Tryz.underlying25 infoU8 (.slice (some ⟨w1.heap.size, 0, none⟩) 2 2) _ rfl HL1 _ u rfl hR1 (by simp; omega) (by decide) G1.size ?_; intro v2 w2 hown hgrow hnil; have G2 := Grew.push G1 HL1 hgrow) | (refine wpList_joinN _ rfl _ _ 25 rfl w.heap.size 5 .u8 1 Tryz.underlying25 infoU8 v2 _ rfl (hown.alloc _) _ [fa, fb] rfl (HL2 w2).out (by simp; omega) (by decide) (by have := (G2.alloc (.cells #[] 5)).size; simp at this ⊢; omega) ?_; intro v3 w3 hown2 hgrow2 hnil2))
        go_ret2
        exact (HF _ _ hown2 (Grew.push (G2.alloc _) (hown.alloc _) hgrow2)).out
      · simp only [if_neg hc2] at HCUT
        go_enter Tryz.func50, Tryz.ntmps50
        go_wp2_with fail
        have G : Grew w (w.alloc (.cells #[.int .u8 2, .slice (some ⟨rb, ro, none⟩) ns.length c] 49)) := (Grew.refl w).alloc _
        have k1 : (w.alloc (.cells #[.int .u8 2, .slice (some ⟨rb, ro, none⟩) ns.length c] 49)).cell? ⟨w.heap.size, 1, none⟩ = some (.slice (some ⟨rb, ro, none⟩) ns.length c) := by simp
        generalize (w.alloc (.cells #[.int .u8 2, .slice (some ⟨rb, ro, none⟩) ns.length c] 49)) = W at *
        have hws := World.block_lt_of_cell? W _ k1
        have KS : ∀ w', Grew W w' → Hid (w'.cell? ⟨w.heap.size, 1, none⟩ = some (.slice (some ⟨rb, ro, none⟩) ns.length c) ∧ w'.cell? ⟨rb, ro, none⟩ = some (.int .u8 x0) ∧ w'.cell? ⟨rb, ro + 1, none⟩ = some (.int .u8 x1)) := fun w' g =>
          Lib.hid ⟨(g.cell (p := ⟨w.heap.size, 1, none⟩) hws).trans k1, (HY w' (G.trans g)).out.1, (HY w' (G.trans g)).out.2⟩
        have HO1 := HO W.heap.size W (Nat.le_refl _)
        have GW := ((Grew.refl W).alloc (.cells #[.int .u8 x0, .int .u8 x1, .int .u8 m1, .int .u8 m2] 5)).drew
        have HC := HCUT _ (G.trans GW)
        clear HY HO HCUT
        go_region_held3 (fun w' => w'.cell? ⟨w.heap.size, 1, none⟩ = some (.slice (some ⟨rb, ro, none⟩) ns.length c) ∧ w'.cell? ⟨rb, ro, none⟩ = some (.int .u8 x0) ∧ w'.cell? ⟨rb, ro + 1, none⟩ = some (.int .u8 x1)) (first | exact (KS _ D).out | exact (KS _ GW).out | exact (KS _ (Grew.refl W).drew).out) (first | (refine step_joinN _ rfl _ _ 25 rfl W.heap.size 5 .u8 1 Tryz.underlying25 infoU8 _ _ rfl HO1.out _ (ns.drop 2) rfl HC.out (by simp; omega) (by decide) GW.size ?_; intro v1 w1 hown hgrow hnil; have D := Grew.push GW HO1.out hgrow))
        rw [← HUB.out] at hown
        have GD := G.trans D
        have hO1 := own_base hown G.size
        have HL1 := own_lit (B := w.heap.size) w1 5 #[.int .u8 181, .int .u8 98] [181, 98] 2 GD.size rfl rfl (by simp [maxLen])
        have HL2 := fun w' => Lib.hid (own_lit (B := 0) w' 5 #[.int .u8 fa, .int .u8 fb] [fa, fb] 2 (Nat.zero_le _) rfl rfl (by simp [maxLen])).row
        have hR1 := (hO1.alloc (.cells #[.int .u8 181, .int .u8 98] 5)).row
        have G1 := GD.alloc (.cells #[.int .u8 181, .int .u8 98] 5)
        have HX1 := HX _ _ hO1.row
        have hul := HUL.out
        clear KS HO1 GW HC HX HUB hgrow hnil hown G D k1 hws HUL e1 e3 e4 e5 e6 e7 b1 b2 p0 p1 p2 p3 hn0 hn1 hn2 h0 h1
        go_wp2_with fail
        refine HX1.out.mono ?_
        rintro e w2 ⟨rfl, rfl⟩
        go_wp2_with (first | (refine wpList_joinN _ rfl _ _ 25 rfl w.heap.size 5 .u8 1 Tryz.underlying25 infoU8 (.slice (some ⟨w1.heap.size, 0, none⟩) 2 2) _ rfl HL1 _ u rfl hR1 (by simp; omega) (by decide) G1.size ?_; intro v2 w2 hown hgrow hnil; have G2 := Grew.push G1 HL1 hgrow) | (refine wpList_joinN _ rfl _ _ 25 rfl w.heap.size 5 .u8 1 Tryz.underlying25 infoU8 v2 _ rfl (hown.alloc _) _ [fa, fb] rfl (HL2 w2).out (by simp; omega) (by decide) (by have := (G2.alloc (.cells #[] 5)).size; simp at this ⊢; omega) ?_; intro v3 w3 hown2 hgrow2 hnil2))
        go_ret2
        exact (HF _ _ hown2 (Grew.push (G2.alloc _) (hown.alloc _) hgrow2)).out
end Go.Proofs.YtcdmbnbanopioaaGreatDoor

namespace Go.Proofs.YtcdmbnbanopioaaGreatDoor
open Go.RowKit
set_option linter.unusedVariables false

/- The document's frames: what bytes begin. -/
def BodyTells (size : Nat) (L : List Nat) (w : World) (e : Ending) (w' : World) : Prop :=
  ∃ A n c, e = .returned (.tuple #[.agg #[.int .u8 ((bodyOf size L).1 : Nat), .slice A n c], .bool (bodyOf size L).2.2.1, .bool (bodyOf size L).2.2.2]) ∧ ((bodyOf size L).2.2.2 = false → Own w.heap.size 5 .u8 w' (.slice A n c) (bodyOf size L).2.1) ∧ Grew w w'
theorem bodyTells_of {size : Nat} {L : List Nat} {w w' : World} (k : Nat) (ns : List Nat) (t r : Bool) (h : bodyOf size L = (k, ns, t, r)) (fv : Value) (ho : r = false → Own w.heap.size 5 .u8 w' fv ns) (g : Grew w w') (hv : ∃ A n c, fv = .slice A n c := by exact ⟨_, _, _, rfl⟩) :
    BodyTells size L w (.returned (.tuple #[.agg #[.int .u8 k, fv], .bool t, .bool r])) w' := by
  obtain ⟨A, n, c, rfl⟩ := hv
  refine ⟨A, n, c, ?_, ?_, g⟩
  · rw [h]
  · rw [h]; exact ho


/-- The answer's variable and the frame's, that a call has made. -/
structure Begun (w wr : World) (k : Nat) (v : Value) : Prop where
  g : Grew w wr
  sz : w.heap.size + 2 ≤ wr.heap.size
  r0 : wr.cell? ⟨w.heap.size, 0, none⟩ = some (.int .u8 0)
  r1 : wr.cell? ⟨w.heap.size, 1, none⟩ = some (.slice none 0 0)
  fr0 : wr.frozen? ⟨w.heap.size, 0, none⟩ = false
  fr1 : wr.frozen? ⟨w.heap.size, 1, none⟩ = false
  f0 : wr.cell? ⟨w.heap.size + 1, 0, none⟩ = some (.int .u8 (k : Nat))
  f1 : wr.cell? ⟨w.heap.size + 1, 1, none⟩ = some v
  ff0 : wr.frozen? ⟨w.heap.size + 1, 0, none⟩ = false
  ff1 : wr.frozen? ⟨w.heap.size + 1, 1, none⟩ = false
theorem Begun.new (w : World) (E : TypeId) : Begun w ((w.alloc (.cells #[.int .u8 0, .slice none 0 0] E)).alloc (.cells #[.int .u8 0, .slice none 0 0] E)) 0 (.slice none 0 0) := by
  refine ⟨((Grew.refl w).alloc _).alloc _, by simp, ?_, ?_, ?_, ?_, ?_, ?_, ?_, ?_⟩ <;> simp [go_sem]
theorem Begun.newK (w : World) (E : TypeId) (k : Nat) : Begun w ((w.alloc (.cells #[.int .u8 0, .slice none 0 0] E)).alloc (.cells #[.int .u8 (k : Nat), .slice none 0 0] E)) k (.slice none 0 0) := by
  refine ⟨((Grew.refl w).alloc _).alloc _, by simp, ?_, ?_, ?_, ?_, ?_, ?_, ?_, ?_⟩ <;> simp [go_sem]
theorem Begun.grow {w wr w' : World} {k : Nat} {v : Value} (h : Begun w wr k v) (D : Below (w.heap.size + 2) wr w') : Begun w w' k v := by
  have c : ∀ b j, b < w.heap.size + 2 → w'.cell? ⟨b, j, none⟩ = wr.cell? ⟨b, j, none⟩ := fun b j hb => World.cell?_of_block (w := wr) (D.block b hb)
  have f : ∀ b j, b < w.heap.size + 2 → w'.frozen? ⟨b, j, none⟩ = wr.frozen? ⟨b, j, none⟩ := fun b j hb => World.frozen?_of_block (w := wr) (D.block b hb)
  exact ⟨Below.trans h.g (Below.mono D (by omega)), Nat.le_trans h.sz D.size, (c _ _ (by omega)).trans h.r0, (c _ _ (by omega)).trans h.r1, (f _ _ (by omega)).trans h.fr0, (f _ _ (by omega)).trans h.fr1,
    (c _ _ (by omega)).trans h.f0, (c _ _ (by omega)).trans h.f1, (f _ _ (by omega)).trans h.ff0, (f _ _ (by omega)).trans h.ff1⟩
theorem Begun.kind {w wr : World} {k : Nat} {v : Value} (h : Begun w wr k v) (k' : Nat) : Begun w (wr.setCell ⟨w.heap.size + 1, 0, none⟩ (.int .u8 (k' : Nat))) k' v := by
  have o : ∀ {b j : Nat}, ¬ (b = w.heap.size + 1 ∧ j = 0) → (⟨w.heap.size + 1, 0, none⟩ : Addr) ≠ ⟨b, j, none⟩ := fun hn e => hn (by injection e with e1 e2; exact ⟨e1.symm, e2.symm⟩)
  refine ⟨h.g.setCell (by show _ ≤ w.heap.size + 1; omega) _, by simpa [World.setCell] using h.sz, ?_, ?_, by simpa [go_sem] using h.fr0, by simpa [go_sem] using h.fr1, World.cell?_setCell_same _ _ _ h.f0, ?_, by simpa [go_sem] using h.ff0, by simpa [go_sem] using h.ff1⟩
  · rw [World.cell?_setCell_other _ _ _ _ (o (by omega))]; exact h.r0
  · rw [World.cell?_setCell_other _ _ _ _ (o (by omega))]; exact h.r1
  · rw [World.cell?_setCell_other _ _ _ _ (o (by omega))]; exact h.f1
theorem Begun.body {w wr : World} {k : Nat} {v : Value} (h : Begun w wr k v) (v' : Value) : Begun w (wr.setCell ⟨w.heap.size + 1, 1, none⟩ v') k v' := by
  have o : ∀ {b j : Nat}, ¬ (b = w.heap.size + 1 ∧ j = 1) → (⟨w.heap.size + 1, 1, none⟩ : Addr) ≠ ⟨b, j, none⟩ := fun hn e => hn (by injection e with e1 e2; exact ⟨e1.symm, e2.symm⟩)
  refine ⟨h.g.setCell (by show _ ≤ w.heap.size + 1; omega) _, by simpa [World.setCell] using h.sz, ?_, ?_, by simpa [go_sem] using h.fr0, by simpa [go_sem] using h.fr1, ?_, World.cell?_setCell_same _ _ _ h.f1, by simpa [go_sem] using h.ff0, by simpa [go_sem] using h.ff1⟩
  · rw [World.cell?_setCell_other _ _ _ _ (o (by omega))]; exact h.r0
  · rw [World.cell?_setCell_other _ _ _ _ (o (by omega))]; exact h.r1
  · rw [World.cell?_setCell_other _ _ _ _ (o (by omega))]; exact h.f0
/-- What is told: the frame goes into the answer's variable. -/
theorem Begun.told {w wr : World} {k : Nat} {v : Value} (h : Begun w wr k v) {size : Nat} {L : List Nat} (ns : List Nat) (t r : Bool) (hb : bodyOf size L = (k, ns, t, r)) (ho : r = false → Own (w.heap.size + 2) 5 .u8 wr v ns) (x y : Value) (hv : ∃ A n c, v = .slice A n c := by exact ⟨_, _, _, rfl⟩) :
    BodyTells size L w (.returned (.tuple #[.agg #[.int .u8 k, v], .bool t, .bool r])) ((wr.setCell ⟨w.heap.size, 0, none⟩ x).setCell ⟨w.heap.size, 1, none⟩ y) := by
  have G : Grew w ((wr.setCell ⟨w.heap.size, 0, none⟩ x).setCell ⟨w.heap.size, 1, none⟩ y) := (h.g.setCell (Nat.le_refl _) _).setCell (Nat.le_refl _) _
  refine bodyTells_of k ns t r hb v (fun hr => ?_) G hv
  have F : Far (fun b => b = w.heap.size) wr ((wr.setCell ⟨w.heap.size, 0, none⟩ x).setCell ⟨w.heap.size, 1, none⟩ y) := Far.setCell (F := fun b => b = w.heap.size) (Far.setCell (F := fun b => b = w.heap.size) (Far.refl _ wr) (p := ⟨w.heap.size, 0, none⟩) rfl x) (p := ⟨w.heap.size, 1, none⟩) rfl y
  refine own_base ((ho hr).far F (fun b hb e => ?_)) (Nat.le_add_right _ 2)
  have := World.ownsRow.lt (ho hr) b hb
  omega

theorem below_push {B : Nat} {a w w' : World} {E : TypeId} {k : IntKind} {v : Value} {ns : List Nat} (h : Below B a w) (ho : Own B E k w v ns) (hg : w.grownBy w' v.ownBlock) (hB : B ≤ w.heap.size) : Below B a w' :=
  Below.grown h hg hB (fun b hb => (World.ownsRow.lt ho b hb).1)
theorem run_take (L : List Nat) (t : Nat) (h : ∀ s, s < t → may (wd L (s + 1)) = true) (hl : t + 1 ≤ L.length) : ∃ rest, (L.drop 1).takeWhile may = (L.drop 1).take t ++ rest := by
  induction t generalizing L with
  | zero => exact ⟨(L.drop 1).takeWhile may, by simp⟩
  | succ t ih =>
    match L, hl with
    | x :: y :: L, hl =>
      have h0 := h 0 (by omega)
      obtain ⟨r, hr⟩ := ih (y :: L) (fun s hs => by have := h (s + 1) (by omega); simpa [wd] using this) (by simp at hl ⊢; omega)
      simp [wd] at h0
      exact ⟨r, by simp [h0] at hr ⊢; exact hr⟩
theorem run_stop (L : List Nat) (t : Nat) (h : ∀ s, s < t → may (wd L (s + 1)) = true) (hl : t + 1 ≤ L.length) (he : t + 1 = L.length ∨ may (wd L (t + 1)) = false) : (L.drop 1).takeWhile may = (L.drop 1).take t := by
  induction t generalizing L with
  | zero =>
    match L, hl with
    | [x], _ => simp
    | x :: y :: L, _ =>
      rcases he with he | he
      · simp at he
      · simp [wd] at he; simp [he]
  | succ t ih =>
    match L, hl with
    | x :: y :: L, hl =>
      have h0 := h 0 (by omega)
      have := ih (y :: L) (fun s hs => by have := h (s + 1) (by omega); simpa [wd] using this) (by simp at hl ⊢; omega) (by
        rcases he with he | he
        · left; simpa using he
        · right; simpa [wd] using he)
      simp [wd] at h0
      simp [h0] at this ⊢
      exact this
theorem drop_take_snoc (L : List Nat) (t : Nat) (h : t + 1 < L.length) : (L.drop 1).take (t + 1) = (L.drop 1).take t ++ [wd L (t + 1)] := by
  rw [List.take_add_one, List.getElem?_drop, Nat.add_comm 1 t, List.getElem?_eq_getElem h, wd_lt h]; rfl

theorem ref08_Bytes (k : Nat) (fv : Value) (ns : List Nat) (w : World) (hR : Row .u8 w fv ns) (hB : Bytes ns) (hl : ns.length ≤ 5000) (hk : k < 256) :
    Calls Tryz.prog 50 #[.agg #[.int .u8 k, fv]] w (BytesTells k ns w) := by
  by_cases h1 : k = 1
  · subst h1; exact ref08_Bytes1 fv ns w hR hB hl
  · by_cases h2 : k = 2
    · subst h2; exact ref08_Bytes2 fv ns w hR hB hl
    · by_cases h3 : k = 3
      · subst h3; exact ref08_Bytes3 fv ns w hR hB hl
      · exact ref08_Bytes0 k fv ns w hR hl hk h1 h2 h3

def BeginTells (size : Nat) (L : List Nat) (w : World) (e : Ending) (w' : World) : Prop :=
  ∃ (k n : Nat) (A : Option Addr) (m c : Nat), e = .returned (.tuple #[.int .i64 ((standOf size L).1 : Nat), .agg #[.int .u8 k, .slice A m c], .int .i64 n]) ∧ k < 256 ∧ n ≤ 6000 ∧ ((standOf size L).1 = 1 → k = (standOf size L).2.1 ∧ n = (standOf size L).2.2.2 ∧ Own w.heap.size 5 .u8 w' (.slice A m c) (standOf size L).2.2.1) ∧ Grew w w'

theorem body_kind (size : Nat) (L : List Nat) : (bodyOf size L).1 < 256 := by
  unfold bodyOf
  repeat' split
  all_goals omega
theorem body_bytes {size : Nat} {L : List Nat} (hB : Bytes L) : Bytes (bodyOf size L).2.1 := by
  have hm : ∀ x ∈ L, x < 256 := fun x hx => by
    obtain ⟨i, hi, rfl⟩ := List.getElem_of_mem hx
    have := hB i
    rwa [wd_lt hi] at this
  refine Bytes.of_mem (fun x hx => ?_)
  unfold bodyOf at hx
  have ht : ∀ m, x ∈ (L.drop m).takeWhile may → x < 256 := fun m h => hm x (List.mem_of_mem_drop ((List.takeWhile_sublist _).mem h))
  have hd : ∀ m n, x ∈ (L.drop m).take n → x < 256 := fun m n h => hm x (List.mem_of_mem_drop (List.mem_of_mem_take h))
  repeat' split at hx
  all_goals (try (simp at hx; done))
  all_goals (try (exact ht _ hx))
  all_goals (try (exact hd _ _ hx))
  simp only [List.mem_cons] at hx
  rcases hx with rfl | rfl | hx
  · exact hB 2
  · exact hB 3
  · exact hd _ _ hx
theorem body_len {size : Nat} {L : List Nat} : (bodyOf size L).2.1.length ≤ L.length + 2 := by
  have ht : ((L.drop 1).takeWhile may).length ≤ L.length := Nat.le_trans (List.takeWhile_sublist _).length_le (by simp)
  unfold bodyOf
  repeat' split
  all_goals simp only [List.length_nil, List.length_cons, List.length_take, List.length_drop]
  all_goals omega
end Go.Proofs.YtcdmbnbanopioaaGreatDoor

namespace Go.Proofs.YtcdmbnbanopioaaGreatDoor
open Go.RowKit
set_option linter.unusedVariables false

/- The document's frames: what stands at a ring's begin, its walk. -/
theorem stand_eq {size : Nat} {L : List Nat} (h0 : 0 < L.length) {k : Nat} {ns : List Nat} {t r : Bool} (hb : bodyOf size L = (k, ns, t, r)) :
    standOf size L = if r = true then (2, 0, [], 0) else if t = true ∧ common (frameBytes k ns) L = (frameBytes k ns).length then (1, k, ns, (frameBytes k ns).length) else if t = true ∧ common (frameBytes k ns) L < L.length then (2, 0, [], 0) else if L.length = size then (2, 0, [], 0) else (0, 0, [], 0) := by
  unfold standOf
  rw [if_neg (by omega), hb]
theorem row_cells {k : IntKind} {w : World} {A : Option Addr} {n c : Nat} {ns : List Nat} (h : Row k w (.slice A n c) ns) (hn : 0 < ns.length) : ∃ b o, A = some ⟨b, o, none⟩ ∧ b < w.heap.size ∧ ∀ i, i < ns.length → w.cell? ⟨b, o + i, none⟩ = some (.int k (wd ns i)) := by
  obtain ⟨A', c', e, _, hr⟩ := h
  cases e
  exact hr hn
theorem frame_len {k : Nat} {ns : List Nat} : (frameBytes k ns).length ≤ ns.length + 10 := by
  unfold frameBytes frameRow ubxRow
  repeat' split
  all_goals simp
  all_goals omega
theorem beginTells_no {size : Nat} {L : List Nat} {w w' : World} (st k : Nat) (A : Option Addr) (m c : Nat) (h : (standOf size L).1 = st) (h1 : st ≠ 1) (hk : k < 256) (g : Grew w w') : BeginTells size L w (.returned (.tuple #[.int .i64 (st : Nat), .agg #[.int .u8 k, .slice A m c], .int .i64 0])) w' :=
  ⟨k, 0, A, m, c, by rw [h]; rfl, hk, by omega, fun h' => absurd (h.symm.trans h') h1, g⟩

theorem with_fact08 {p q : Prop} (h : p) (k : p → q) : q := k h
/-- A frame's variable, new. -/
structure NewF (w : World) (b : Nat) : Prop where
  lt : b < w.heap.size
  c0 : w.cell? ⟨b, 0, none⟩ = some (.int .u8 0)
  c1 : w.cell? ⟨b, 1, none⟩ = some (.slice none 0 0)
  f0 : w.frozen? ⟨b, 0, none⟩ = false
  f1 : w.frozen? ⟨b, 1, none⟩ = false
theorem NewF.new (w : World) (E : TypeId) : NewF (w.alloc (.cells #[.int .u8 0, .slice none 0 0] E)) w.heap.size := by
  refine ⟨by simp, ?_, ?_, ?_, ?_⟩ <;> simp [go_sem]
theorem NewF.grew {w w' : World} {b : Nat} (h : NewF w b) (g : Grew w w') : NewF w' b :=
  ⟨Nat.lt_of_lt_of_le h.lt g.size, (g.cell (p := ⟨b, 0, none⟩) h.lt).trans h.c0, (g.cell (p := ⟨b, 1, none⟩) h.lt).trans h.c1, (g.frozen (p := ⟨b, 0, none⟩) h.lt).trans h.f0, (g.frozen (p := ⟨b, 1, none⟩) h.lt).trans h.f1⟩
theorem newF (w : World) (E : TypeId) : ∃ W, w.alloc (.cells #[.int .u8 0, .slice none 0 0] E) = W ∧ Grew w W ∧ NewF W w.heap.size ∧ W.heap.size = w.heap.size + 1 := ⟨_, rfl, (Grew.refl w).alloc _, NewF.new w E, by simp⟩
/-- A frame's variable that holds one. -/
structure HasF (W w : World) (b k : Nat) (v : Value) (ns : List Nat) (r : Bool) : Prop where
  g : Grew W w
  lo : W.heap.size ≤ b
  hi : b < w.heap.size
  c0 : w.cell? ⟨b, 0, none⟩ = some (.int .u8 (k : Nat))
  c1 : w.cell? ⟨b, 1, none⟩ = some v
  own : r = false → Own W.heap.size 5 .u8 w v ns
theorem HasF.grew {W w w' : World} {b k : Nat} {v : Value} {ns : List Nat} {r : Bool} (h : HasF W w b k v ns r) (g : Grew w w') : HasF W w' b k v ns r :=
  ⟨h.g.trans g, h.lo, Nat.lt_of_lt_of_le h.hi g.size, (g.cell (p := ⟨b, 0, none⟩) h.hi).trans h.c0, (g.cell (p := ⟨b, 1, none⟩) h.hi).trans h.c1, fun hr => (h.own hr).grew g⟩

theorem hasF_late {W w1 : World} {k : Nat} {A : Option Addr} {n c : Nat} {ns : List Nat} {r : Bool} (E : TypeId) (hg : Grew W w1) (ho : r = false → Own W.drew.heap.size 5 .u8 w1 (.slice A n c) ns) : HasF W (w1.alloc (.cells #[.int .u8 (k : Nat), .slice A n c] E)) w1.heap.size k (.slice A n c) ns r :=
  ⟨hg.alloc _, hg.size, by simp, by simp [go_sem], by simp [go_sem], fun hr => (ho hr).grew ((Grew.refl _).alloc _)⟩
theorem hasF_early {W w1 : World} {k : Nat} {A : Option Addr} {n c : Nat} {ns : List Nat} {r : Bool} {E : TypeId} (hg : Grew (W.alloc (.cells #[.int .u8 0, .slice none 0 0] E)).drew w1) (ho : r = false → Own (W.alloc (.cells #[.int .u8 0, .slice none 0 0] E)).drew.heap.size 5 .u8 w1 (.slice A n c) ns) : HasF W ((w1.setCell ⟨W.heap.size, 0, none⟩ (.int .u8 (k : Nat))).setCell ⟨W.heap.size, 1, none⟩ (.slice A n c)) W.heap.size k (.slice A n c) ns r := by
  have B := ((NewF.new W E).grew (Grew.refl _).drew).grew hg
  have gW : Grew W w1 := Grew.trans (((Grew.refl W).alloc _).drew) hg
  have ne : ∀ {i j : Nat}, i ≠ j → (⟨W.heap.size, i, none⟩ : Addr) ≠ ⟨W.heap.size, j, none⟩ := fun hj e => hj (by injection e)
  have F : Far (fun b => b = W.heap.size) w1 ((w1.setCell ⟨W.heap.size, 0, none⟩ (.int .u8 (k : Nat))).setCell ⟨W.heap.size, 1, none⟩ (.slice A n c)) := Far.setCell (F := fun b => b = W.heap.size) (Far.setCell (F := fun b => b = W.heap.size) (Far.refl _ w1) (p := ⟨W.heap.size, 0, none⟩) rfl _) (p := ⟨W.heap.size, 1, none⟩) rfl _
  have hs : (W.alloc (.cells #[.int .u8 0, .slice none 0 0] E)).drew.heap.size = W.heap.size + 1 := by simp [World.drew]
  refine ⟨(gW.setCell (Nat.le_refl _) _).setCell (Nat.le_refl _) _, Nat.le_refl _, by simpa [World.setCell] using B.lt, ?_, ?_, fun hr => ?_⟩
  · rw [World.cell?_setCell_other _ _ _ _ (ne (by omega))]; exact World.cell?_setCell_same _ _ _ B.c0
  · exact World.cell?_setCell_same _ _ _ ((World.cell?_setCell_other _ _ _ _ (ne (by omega))).trans B.c1)
  · have h := ho hr
    rw [hs] at h
    refine own_base (h.far F (fun b hb e => ?_)) (Nat.le_add_right _ 1)
    have := World.ownsRow.lt h b hb
    omega

theorem next_short {size : Nat} {M : List Nat} (h : (standOf size M).1 = 0) : nextOf size M = (none, 0, M) := by
  cases M with
  | nil => rfl
  | cons x M => unfold nextOf; rw [if_pos h]
theorem next_one {size : Nat} {M : List Nat} (h : (standOf size M).1 = 1) : nextOf size M = (some ((standOf size M).2.1, (standOf size M).2.2.1), 0, M.drop (standOf size M).2.2.2) ∧ (standOf size M).2.2.2 ≤ M.length := by
  cases M with
  | nil => simp [standOf] at h
  | cons x M =>
    refine ⟨by conv => lhs; unfold nextOf
               rw [if_neg (by omega), if_pos h], ?_⟩
    obtain ⟨k, ns, t, r, hb⟩ : ∃ k ns t r, bodyOf size (x :: M) = (k, ns, t, r) := ⟨_, _, _, _, rfl⟩
    have e := stand_eq (size := size) (L := x :: M) (by simp) hb
    have hc := common_le (frameBytes k ns) (x :: M)
    by_cases h1 : r = true
    · rw [if_pos h1] at e; rw [e] at h; simp at h
    · rw [if_neg h1] at e
      by_cases h2 : t = true ∧ common (frameBytes k ns) (x :: M) = (frameBytes k ns).length
      · rw [if_pos h2] at e; rw [e]; simp only; omega
      · rw [if_neg h2] at e
        split at e
        · rw [e] at h; simp at h
        · split at e <;> (rw [e] at h; simp at h)
theorem next_wrong {size : Nat} {M : List Nat} (h0 : (standOf size M).1 ≠ 0) (h1 : (standOf size M).1 ≠ 1) : nextOf size M = ((nextOf size (M.drop 1)).1, (nextOf size (M.drop 1)).2.1 + 1, (nextOf size (M.drop 1)).2.2) ∧ 0 < M.length := by
  cases M with
  | nil => simp [standOf] at h0
  | cons x M =>
    refine ⟨?_, by simp⟩
    conv => lhs; unfold nextOf
    rw [if_neg h0, if_neg h1]
    rfl
theorem Bytes.drop {L : List Nat} (h : Bytes L) (n : Nat) : Bytes (L.drop n) := by
  intro i
  have := h (n + i)
  simpa [wd, List.getD_eq_getElem?_getD, List.getElem?_drop] using this

/-- The frame that is told, where there is one; else the zero one. -/
def frameOf (o : Option (Nat × List Nat)) : Nat × List Nat := o.getD (0, [])
def RefNext (g size : Nat) (L0 : Value) (L : List Nat) (lost : Nat) (w : World) (e : Ending) (w' : World) : Prop :=
  ∃ fv Lv, e = .returned (.tuple #[.agg #[.int .u8 ((frameOf (nextOf size L).1).1 : Nat), fv], .bool (nextOf size L).1.isSome, .int .i64 ((nextOf size L).2.1 : Nat)]) ∧ Own w.heap.size 5 .u8 w' fv (frameOf (nextOf size L).1).2 ∧ (frameOf (nextOf size L).1).1 < 256 ∧
    RefAt w' g size Lv (nextOf size L).2.2 lost ∧ Lv.ownBlock = L0.ownBlock ∧ Far (fun k => k = g) w w'

theorem NewF.far {F : Nat → Prop} {w w' : World} {b : Nat} (h : NewF w b) (g : Far F w w') (hF : ¬ F b) : NewF w' b :=
  ⟨Nat.lt_of_lt_of_le h.lt g.size, (g.cell (p := ⟨b, 0, none⟩) h.lt hF).trans h.c0, (g.cell (p := ⟨b, 1, none⟩) h.lt hF).trans h.c1, (g.frozen (p := ⟨b, 0, none⟩) h.lt hF).trans h.f0, (g.frozen (p := ⟨b, 1, none⟩) h.lt hF).trans h.f1⟩
/-- The answer's variable is written: nothing else of what was there. -/
theorem far_two {F : Nat → Prop} {w V : World} {b : Nat} (h : Far F w V) (hb : w.heap.size ≤ b) (x y : Value) : Far F w ((V.setCell ⟨b, 0, none⟩ x).setCell ⟨b, 1, none⟩ y) := by
  have k : Far (fun k => k = b) V ((V.setCell ⟨b, 0, none⟩ x).setCell ⟨b, 1, none⟩ y) := Far.setCell (F := fun k => k = b) (Far.one V ⟨b, 0, none⟩ x) (p := ⟨b, 1, none⟩) rfl y
  exact ⟨k.os.trans h.os, k.tape.trans h.tape, k.output.trans h.output, Nat.le_trans h.size k.size, fun i hi hF => (k.block i (Nat.lt_of_lt_of_le hi h.size) (fun e => by have : i = b := e; omega)).trans (h.block i hi hF)⟩
theorem back_two {w1 : World} {b : Nat} (N : NewF w1 b) (x y : Value) (o : Obj) : (((w1.setCell ⟨b, 0, none⟩ x).setCell ⟨b, 1, none⟩ y).alloc o).cell? ⟨b, 0, none⟩ = some x ∧ (((w1.setCell ⟨b, 0, none⟩ x).setCell ⟨b, 1, none⟩ y).alloc o).cell? ⟨b, 1, none⟩ = some y := by
  have ne : ∀ {i j : Nat}, i ≠ j → (⟨b, i, none⟩ : Addr) ≠ ⟨b, j, none⟩ := fun hj e => hj (by injection e)
  have g := (Grew.refl ((w1.setCell ⟨b, 0, none⟩ x).setCell ⟨b, 1, none⟩ y)).alloc o
  have hb : b < ((w1.setCell ⟨b, 0, none⟩ x).setCell ⟨b, 1, none⟩ y).heap.size := by simpa [World.setCell] using N.lt
  refine ⟨(g.cell (p := ⟨b, 0, none⟩) hb).trans ?_, (g.cell (p := ⟨b, 1, none⟩) hb).trans ?_⟩
  · rw [World.cell?_setCell_other _ _ _ _ (ne (by omega))]; exact World.cell?_setCell_same _ _ _ N.c0
  · exact World.cell?_setCell_same _ _ _ ((World.cell?_setCell_other _ _ _ _ (ne (by omega))).trans N.c1)
theorem refNext_of {g size lost : Nat} {L0 : Value} {L : List Nat} {w w' : World} {o : Option (Nat × List Nat)} {d : Nat} {R : List Nat} {Lv : Value} (hN : nextOf size L = (o, d, R)) (k : Nat) (fv : Value) (hk : k = (frameOf o).1) (hk2 : k < 256) (ho : Own w.heap.size 5 .u8 w' fv (frameOf o).2) (hR : RefAt w' g size Lv R lost) (hb : Lv.ownBlock = L0.ownBlock) (hF : Far (fun k => k = g) w w') :
    RefNext g size L0 L lost w (.returned (.tuple #[.agg #[.int .u8 k, fv], .bool o.isSome, .int .i64 (d : Nat)])) w' := by
  refine ⟨fv, Lv, ?_, ?_, ?_, ?_, hb, hF⟩
  · rw [hN, hk]
  · rw [hN]; exact ho
  · rw [hN]; rw [← hk]; exact hk2
  · rw [hN]; exact hR
theorem far_at {V : World} {b : Nat} (x y : Value) : Far (fun k => k = b) V ((V.setCell ⟨b, 0, none⟩ x).setCell ⟨b, 1, none⟩ y) := Far.setCell (F := fun k => k = b) (Far.one V ⟨b, 0, none⟩ x) (p := ⟨b, 1, none⟩) rfl y

/-- The i-th one of frames. -/
def fr (fs : List (Nat × List Nat)) (i : Nat) : Nat × List Nat := fs.getD i (0, [])
/-- A frame in memory. -/
structure FrameIn (w : World) (b o : Nat) (f : Nat × List Nat) (v : Value) : Prop where
  lt : b < w.heap.size
  c0 : w.cell? ⟨b, o, none⟩ = some (.int .u8 (f.1 : Nat))
  c1 : w.cell? ⟨b, o + 1, none⟩ = some v
  row : Row .u8 w v f.2
  k : f.1 < 256
theorem FrameIn.grew {w w' : World} {b o : Nat} {f : Nat × List Nat} {v : Value} (h : FrameIn w b o f v) (g : Grew w w') : FrameIn w' b o f v :=
  ⟨Nat.lt_of_lt_of_le h.lt g.size, (g.cell (p := ⟨b, o, none⟩) h.lt).trans h.c0, (g.cell (p := ⟨b, o + 1, none⟩) h.lt).trans h.c1, h.row.grew g, h.k⟩
/-- Frames behind a slice value. -/
def FramesAt (w : World) (v : Value) (fs : List (Nat × List Nat)) : Prop :=
  ∃ A c, v = .slice A fs.length c ∧ fs.length ≤ c ∧ (0 < fs.length → ∃ b o, A = some ⟨b, o, none⟩ ∧ ∀ i, i < fs.length → ∃ fv, FrameIn w b (o + i * 2) (fr fs i) fv)
theorem FramesAt.grew {w w' : World} {v : Value} {fs : List (Nat × List Nat)} (h : FramesAt w v fs) (g : Grew w w') : FramesAt w' v fs := by
  obtain ⟨A, c, e, hc, hr⟩ := h
  refine ⟨A, c, e, hc, fun hn => ?_⟩
  obtain ⟨b, o, e2, hf⟩ := hr hn
  refine ⟨b, o, e2, fun i hi => ?_⟩
  obtain ⟨fv, hv⟩ := hf i hi
  exact ⟨fv, hv.grew g⟩

end Go.Proofs.YtcdmbnbanopioaaGreatDoor

namespace Go.Proofs.YtcdmbnbanopioaaGreatDoor
open Go.RowKit
set_option linter.unusedVariables false

/- What the program tells of frames; the page's examples out of it. -/
theorem row_farE {F : Nat → Prop} {w w' : World} {k : IntKind} {v : Value} {ns : List Nat} (h : Row k w v ns) (g : Far F w w') (hF : 0 < ns.length → ∀ b, v.ownBlock = some b → ¬ F b) : Row k w' v ns := by
  obtain ⟨A, cap, rfl, hc, hr⟩ := h
  refine ⟨A, cap, rfl, hc, fun hn => ?_⟩
  obtain ⟨b, o, rfl, hb, hcell⟩ := hr hn
  exact ⟨b, o, rfl, Nat.lt_of_lt_of_le hb g.size, fun i hi => (g.cell (p := ⟨b, o + i, none⟩) hb (hF hn b rfl)).trans (hcell i hi)⟩
/-- Frames behind a slice value, all of it made in blocks from B on, below U. -/
def FramesFrom (B U : Nat) (w : World) (v : Value) (fs : List (Nat × List Nat)) : Prop :=
  ∃ A c, v = .slice A fs.length c ∧ fs.length ≤ c ∧ (0 < fs.length → ∃ b o, A = some ⟨b, o, none⟩ ∧ (B ≤ b ∧ b < U) ∧ ∀ i, i < fs.length → ∃ fv, FrameIn w b (o + i * 2) (fr fs i) fv ∧ (0 < (fr fs i).2.length → ∀ b, fv.ownBlock = some b → B ≤ b ∧ b < U))
theorem FramesFrom.at_ {B U : Nat} {w : World} {v : Value} {fs : List (Nat × List Nat)} (h : FramesFrom B U w v fs) : FramesAt w v fs := by
  obtain ⟨A, c, e, hc, hr⟩ := h
  refine ⟨A, c, e, hc, fun hn => ?_⟩
  obtain ⟨b, o, e2, _, hf⟩ := hr hn
  exact ⟨b, o, e2, fun i hi => (hf i hi).imp fun _ h => h.1⟩
theorem FrameIn.far {F : Nat → Prop} {w w' : World} {b o : Nat} {f : Nat × List Nat} {v : Value} (h : FrameIn w b o f v) (g : Far F w w') (hb : ¬ F b) (hv : 0 < f.2.length → ∀ b, v.ownBlock = some b → ¬ F b) : FrameIn w' b o f v :=
  ⟨Nat.lt_of_lt_of_le h.lt g.size, (g.cell (p := ⟨b, o, none⟩) h.lt hb).trans h.c0, (g.cell (p := ⟨b, o + 1, none⟩) h.lt hb).trans h.c1, row_farE h.row g hv, h.k⟩
theorem FramesFrom.far {F : Nat → Prop} {B U : Nat} {w w' : World} {v : Value} {fs : List (Nat × List Nat)} (h : FramesFrom B U w v fs) (g : Far F w w') (hF : ∀ b, F b → b < B ∨ U ≤ b) : FramesFrom B U w' v fs := by
  obtain ⟨A, c, e, hc, hr⟩ := h
  refine ⟨A, c, e, hc, fun hn => ?_⟩
  obtain ⟨b, o, e2, hB, hf⟩ := hr hn
  refine ⟨b, o, e2, hB, fun i hi => ?_⟩
  obtain ⟨fv, h1, h2⟩ := hf i hi
  refine ⟨fv, h1.far g (fun hb => ?_) (fun hn b hb hFb => ?_), h2⟩
  · have := hF _ hb; omega
  · have h3 := h2 hn b hb
    have := hF _ hFb
    omega
theorem FramesFrom.grew {B U : Nat} {w w' : World} {v : Value} {fs : List (Nat × List Nat)} (h : FramesFrom B U w v fs) (g : Grew w w') : FramesFrom B U w' v fs := h.far (F := fun _ => False) (Far.of_grew g) (fun _ h => h.elim)
theorem frames_one {w : World} {E : TypeId} {k n c : Nat} {A : Option Addr} {ns : List Nat} (h : Row .u8 w (.slice A n c) ns) (hk : k < 256) : FramesAt (w.alloc (.cells #[.int .u8 (k : Nat), .slice A n c] E)) (.slice (some ⟨w.heap.size, 0, none⟩) 1 1) [(k, ns)] := by
  refine ⟨_, 1, rfl, Nat.le_refl _, fun _ => ⟨w.heap.size, 0, rfl, fun i hi => ?_⟩⟩
  obtain rfl : i = 0 := by simpa using hi
  exact ⟨.slice A n c, by simp, by simp [go_sem, fr], by simp [go_sem], h.grew ((Grew.refl w).alloc _), hk⟩

section
variable (R : World → Value → (Nat → Prop) → Nat → List Nat → Nat → Prop)
def NextTells (v : Value) (F : Nat → Prop) (size : Nat) (L : List Nat) (lost : Nat) (w : World) (e : Ending) (w' : World) : Prop :=
  ∃ F' fv, e = .returned (.tuple #[.agg #[.int .u8 ((frameOf (nextOf size L).1).1 : Nat), fv], .bool (nextOf size L).1.isSome, .int .i64 ((nextOf size L).2.1 : Nat)]) ∧ Row .u8 w' fv (frameOf (nextOf size L).1).2 ∧ (frameOf (nextOf size L).1).1 < 256 ∧
    (0 < (frameOf (nextOf size L).1).2.length → ∀ b, fv.ownBlock = some b → w.heap.size ≤ b ∧ ¬ F' b) ∧ R w' v F' size (nextOf size L).2.2 lost ∧ (∀ b, F' b → F b ∨ w.heap.size ≤ b) ∧ Far F w w'
def AllTells (v : Value) (F : Nat → Prop) (size : Nat) (L : List Nat) (lost : Nat) (w : World) (e : Ending) (w' : World) : Prop :=
  ∃ F' lv fs d rest, e = .returned (.tuple #[lv, .int .i64 (d : Nat)]) ∧ Took size L fs d rest ∧ FramesFrom w.heap.size w'.heap.size w' lv fs ∧ R w' v F' size rest lost ∧ (∀ b, F' b → F b ∨ w.heap.size ≤ b) ∧ Far F w w'
structure FrameCalls (T : World → Prop) : Prop where
  bytes : ∀ w k fv ns, Row .u8 w fv ns → Bytes ns → ns.length ≤ 5000 → k < 256 → T w → Calls Tryz.prog 62 #[.agg #[.int .u8 (k : Nat), fv]] w fun e w' => ∃ v, e = .returned (.tuple #[v, .int .i64 (frameErr k ns : Nat)]) ∧ Row .u8 w' v (frameBytes k ns) ∧ (0 < (frameBytes k ns).length → ∀ b, v.ownBlock = some b → w.heap.size ≤ b) ∧ Grew w w'
end

def OfTells (xs : List Nat) (w : World) (e : Ending) (w' : World) : Prop :=
  ∃ A c, e = .returned (.tuple #[.agg #[.int .u8 ((frameOf (nextOf 64 xs).1).1 : Nat), .slice A (frameOf (nextOf 64 xs).1).2.length c], .bool (nextOf 64 xs).1.isSome, .int .i64 ((nextOf 64 xs).2.1 : Nat)]) ∧ Row .u8 w' (.slice A (frameOf (nextOf 64 xs).1).2.length c) (frameOf (nextOf 64 xs).1).2 ∧ Grew w w'

/- The page's examples of frames. -/
def ex1 : List Nat := [36, 65, 42, 52, 49, 13, 10]
def ex2 : List Nat := [120, 181, 98, 1, 2, 0, 0, 3, 10]
def ex3 : List Nat := [36, 65, 42, 52, 50, 13, 10]
def ex4 : List Nat := [36, 65]
theorem ex_next : nextOf 64 ex1 = (some (1, [65]), 0, []) ∧ nextOf 64 ex2 = (some (2, [1, 2]), 1, []) ∧ nextOf 64 ex3 = (none, 7, []) ∧ nextOf 64 ex4 = (none, 0, [36, 65]) := by decide +kernel
theorem ex_bytes : Bytes ex1 ∧ Bytes ex2 ∧ Bytes ex3 ∧ Bytes ex4 := ⟨Bytes.of_mem (by decide), Bytes.of_mem (by decide), Bytes.of_mem (by decide), Bytes.of_mem (by decide)⟩
theorem strA : strOf [65] = { data := #[65] } := by decide +kernel

theorem row_lit (w : World) (E : TypeId) (fr : Nat × Nat) (ns : List Nat) : Row .u8 (w.alloc (.cells (ns.map fun n => Value.int .u8 (n : Nat)).toArray E fr)) (.slice (some ⟨w.heap.size, 0, none⟩) ns.length ns.length) ns :=
  Row.of_block (heap_alloc_new _ _) (fun i hi => by simp [wd, hi]) _ (Nat.le_refl _)
theorem row_ex1 (w : World) (E : TypeId) (fr : Nat × Nat) (b : Nat) (hb : b = w.heap.size) : Row .u8 (w.alloc (.cells #[.int .u8 36, .int .u8 65, .int .u8 42, .int .u8 52, .int .u8 49, .int .u8 13, .int .u8 10] E fr)) (.slice (some ⟨b, 0, none⟩) 7 7) ex1 := by
  subst hb
  have := row_lit w E fr ex1
  simpa [ex1] using this
theorem row_ex2 (w : World) (E : TypeId) (fr : Nat × Nat) (b : Nat) (hb : b = w.heap.size) : Row .u8 (w.alloc (.cells #[.int .u8 120, .int .u8 181, .int .u8 98, .int .u8 1, .int .u8 2, .int .u8 0, .int .u8 0, .int .u8 3, .int .u8 10] E fr)) (.slice (some ⟨b, 0, none⟩) 9 9) ex2 := by
  subst hb
  have := row_lit w E fr ex2
  simpa [ex2] using this
theorem row_ex3 (w : World) (E : TypeId) (fr : Nat × Nat) (b : Nat) (hb : b = w.heap.size) : Row .u8 (w.alloc (.cells #[.int .u8 36, .int .u8 65, .int .u8 42, .int .u8 52, .int .u8 50, .int .u8 13, .int .u8 10] E fr)) (.slice (some ⟨b, 0, none⟩) 7 7) ex3 := by
  subst hb
  have := row_lit w E fr ex3
  simpa [ex3] using this
theorem row_ex4 (w : World) (E : TypeId) (fr : Nat × Nat) (b : Nat) (hb : b = w.heap.size) : Row .u8 (w.alloc (.cells #[.int .u8 36, .int .u8 65] E fr)) (.slice (some ⟨b, 0, none⟩) 2 2) ex4 := by
  subst hb
  have := row_lit w E fr ex4
  simpa [ex4] using this
/-- A frame's variable keeps its frame. -/
theorem boxed_keeps {w1 w' : World} {E : TypeId} {x y : Value} (g : Grew (w1.alloc (.cells #[x, y] E)) w') : w'.cell? ⟨w1.heap.size, 0, none⟩ = some x ∧ w'.cell? ⟨w1.heap.size, 1, none⟩ = some y :=
  ⟨(g.cell (p := ⟨w1.heap.size, 0, none⟩) (by simp)).trans (by simp [go_sem]), (g.cell (p := ⟨w1.heap.size, 1, none⟩) (by simp)).trans (by simp [go_sem])⟩

/- The walk of the law on no ring and on all frames, out of the contracts. -/
theorem took_zero {size : Nat} {L : List Nat} {d : Nat} {R : List Nat} (h : Took size L [] d R) : nextOf size L = (none, d, R) := by
  cases h with
  | none _ h => rw [← h]
theorem took_one {size : Nat} {L : List Nat} {x : Nat × List Nat} {fs : List (Nat × List Nat)} {d : Nat} {R : List Nat} (h : Took size L (x :: fs) d R) : ∃ d1 L2 d2, nextOf size L = (some x, d1, L2) ∧ d = d1 + d2 ∧ Took size L2 fs d2 R := by
  cases h with
  | some _ _ _ d2 _ h t => exact ⟨_, _, d2, by rw [← h], rfl, t⟩
theorem next_sum (size : Nat) (L : List Nat) : (nextOf size L).2.1 + (nextOf size L).2.2.length ≤ L.length := by
  induction L with
  | nil => simp [nextOf]
  | cons x L ih =>
    unfold nextOf
    split
    · simp
    · split
      · simp [List.length_drop]
      · simp; omega
theorem all_takeWhile (p : Nat → Bool) (L : List Nat) : (L.takeWhile p).all p = true := by
  induction L with
  | nil => rfl
  | cons x L ih =>
    rw [List.takeWhile_cons]
    split
    · rename_i h; simp only [List.all_cons, h, ih, Bool.and_self]
    · rfl
/-- A body that is there has a frame's bytes. -/
theorem body_ok {size : Nat} {L : List Nat} {k : Nat} {ns : List Nat} (h : bodyOf size L = (k, ns, true, false)) : frameErr k ns = 0 := by
  unfold bodyOf at h
  repeat' split at h
  all_goals (simp only [Prod.mk.injEq, Bool.false_eq_true, Bool.true_eq_false, and_false, false_and] at h)
  · obtain ⟨rfl, rfl, _⟩ := h
    unfold frameErr
    rw [if_pos rfl, if_neg (by assumption), if_pos (all_takeWhile _ _)]
  · obtain ⟨rfl, rfl, _⟩ := h
    unfold frameErr
    rw [if_neg (by omega), if_pos rfl, if_neg (by simp), if_neg (by simp only [List.length_cons, List.length_take, List.length_drop]; omega)]
  · obtain ⟨rfl, rfl, _⟩ := h
    unfold frameErr
    rw [if_neg (by omega), if_neg (by omega), if_pos rfl, if_neg (by simp only [List.length_take, List.length_drop]; omega)]
theorem stand_pos {size : Nat} {L : List Nat} (h : (standOf size L).1 = 1) : 0 < (standOf size L).2.2.2 := by
  rcases Nat.eq_zero_or_pos L.length with h0 | h0
  · unfold standOf at h; rw [if_pos h0] at h; cases h
  · obtain ⟨k, ns, t, r, hb⟩ : ∃ k ns t r, bodyOf size L = (k, ns, t, r) := ⟨_, _, _, _, rfl⟩
    have e := stand_eq h0 hb
    by_cases h1 : r = true
    · rw [if_pos h1] at e; rw [e] at h; simp at h
    · rw [if_neg h1] at e
      by_cases h2 : t = true ∧ common (frameBytes k ns) L = (frameBytes k ns).length
      · rw [if_pos h2] at e
        rw [e]
        have hr : r = false := by simpa using h1
        rw [h2.1, hr] at hb
        have hk := body_ok hb
        obtain ⟨x, M, hx⟩ := row_pos k ns
        simp only
        unfold frameBytes
        rw [if_pos hk, hx]; simp
      · rw [if_neg h2] at e
        split at e
        · rw [e] at h; simp at h
        · split at e <;> (rw [e] at h; simp at h)
theorem next_lt (size : Nat) (L : List Nat) {x : Nat × List Nat} (h : (nextOf size L).1 = some x) : (nextOf size L).2.1 + (nextOf size L).2.2.length < L.length := by
  induction L with
  | nil => simp [nextOf] at h
  | cons y L ih =>
    by_cases h0 : (standOf size (y :: L)).1 = 0
    · rw [next_short h0] at h; cases h
    · by_cases h1 : (standOf size (y :: L)).1 = 1
      · obtain ⟨e, hl⟩ := next_one h1
        have hp := stand_pos h1
        rw [e]
        simp only [List.length_drop, Nat.zero_add]
        simp only [List.length_cons] at hl ⊢
        omega
      · obtain ⟨e, _⟩ := next_wrong h0 h1
        rw [e] at h ⊢
        have := ih h
        simp only [List.drop_succ_cons, List.drop_zero, List.length_cons] at this ⊢
        omega
theorem took_count {size : Nat} {L : List Nat} {fs : List (Nat × List Nat)} {d : Nat} {R : List Nat} (h : Took size L fs d R) : fs.length + d + R.length ≤ L.length := by
  induction h with
  | none L h => have := next_sum size L; simp; omega
  | some L x fs d R h t ih => have := next_lt size L h; simp only [List.length_cons]; omega
theorem took_sum {size : Nat} {L : List Nat} {fs : List (Nat × List Nat)} {d : Nat} {R : List Nat} (h : Took size L fs d R) : d + R.length ≤ L.length := by
  induction h with
  | none L h => exact next_sum size L
  | some L x fs d R h t ih => have := next_sum size L; omega
theorem frames_mk {w : World} {b k n c : Nat} {A : Option Addr} {ns : List Nat} (hb : b < w.heap.size) (c0 : w.cell? ⟨b, 0, none⟩ = some (.int .u8 (k : Nat))) (c1 : w.cell? ⟨b, 1, none⟩ = some (.slice A n c)) (h : Row .u8 w (.slice A n c) ns) (hk : k < 256) : FramesAt w (.slice (some ⟨b, 0, none⟩) 1 1) [(k, ns)] := by
  refine ⟨_, 1, rfl, Nat.le_refl _, fun _ => ⟨b, 0, rfl, fun i hi => ?_⟩⟩
  obtain rfl : i = 0 := by simpa using hi
  exact ⟨.slice A n c, hb, c0, c1, h, hk⟩
theorem drop_fr {fs : List (Nat × List Nat)} {k : Nat} (h : k < fs.length) : fs.drop k = fr fs k :: fs.drop (k + 1) := by
  rw [List.drop_eq_getElem_cons h]; unfold fr; rw [List.getD_eq_getElem?_getD, List.getElem?_eq_getElem h]; rfl

section
variable {R : World → Value → (Nat → Prop) → Nat → List Nat → Nat → Prop} {T : World → Prop}
end

/- The walk of the law on a frame's bytes, out of the contracts. -/
theorem Bytes.mem {L : List Nat} (hB : Bytes L) : ∀ x ∈ L, x < 256 := fun x hx => by
  obtain ⟨i, hi, rfl⟩ := List.getElem_of_mem hx
  have := hB i
  rwa [wd_lt hi] at this
theorem frame_bytes {k : Nat} {ns : List Nat} (hB : Bytes ns) (hk : k < 256) : Bytes (frameBytes k ns) := by
  refine Bytes.of_mem (fun x hx => ?_)
  unfold frameBytes at hx
  split at hx
  · rename_i he
    have hm := hB.mem
    have h1 : xorOf ns < 256 := xorTo_lt hB _
    have h2 := fletB_lt (ubxRow ns)
    have h3 : fletA (ubxRow ns) < 256 := by unfold fletA; omega
    have h4 : fifOf ns < 32768 := by unfold fifOf; omega
    have d1 := digit_lt (xorOf ns / 16) (by omega)
    have d2 := digit_lt (xorOf ns % 16) (by omega)
    unfold frameErr at he
    by_cases k1 : k = 1
    · simp only [frameRow, if_pos k1, List.mem_cons, List.mem_append, List.not_mem_nil, or_false] at hx
      rcases hx with rfl | hx | rfl | rfl | rfl | rfl | rfl
      · omega
      · exact hm _ hx
      all_goals omega
    · rw [if_neg k1] at he
      by_cases k2 : k = 2
      · rw [if_pos k2] at he
        have hl : ns.length ≤ 514 := by by_cases h : ns.length < 2 <;> by_cases h' : 514 < ns.length <;> simp_all <;> omega
        have hd : ∀ y ∈ ns.drop 2, y < 256 := fun y hy => hm y (List.mem_of_mem_drop hy)
        have b0 := hB 0
        have b1 := hB 1
        simp only [frameRow, if_neg k1, if_pos k2] at hx
        generalize fletA (ubxRow ns) = fa at *
        generalize fletB (ubxRow ns) = fb at *
        simp only [ubxRow, List.mem_cons, List.mem_append, List.not_mem_nil, or_false] at hx
        rcases hx with (e | e) | ((e | e | e | e) | e) | e | e
        all_goals first | (exact hd _ e) | (rw [e]; first | exact b0 | exact b1 | omega)
      · rw [if_neg k2] at he
        by_cases k3 : k = 3
        · rw [if_pos k3] at he
          have hl : ns.length ≤ 1023 := by by_cases h : 1023 < ns.length <;> simp_all <;> omega
          simp only [frameRow, if_neg k1, if_neg k2, List.mem_cons, List.mem_append, List.not_mem_nil, or_false] at hx
          rcases hx with (e | e | e | e) | e | e | e | e | e
          all_goals first | (exact hm _ e) | (rw [e]; omega)
        · rw [if_neg k3] at he; cases he
  · simp at hx
end Go.Proofs.YtcdmbnbanopioaaGreatDoor

namespace Go.Proofs.YtcdmbnbanopioaaGreatDoor
open Go.RowKit
set_option linter.unusedVariables false

/- Contracts of civil: years, leap years, lengths of months. -/
/-- 1900 to 2199. -/
def isYr (y : Int) : Bool := decide (1900 ≤ y ∧ y ≤ 2199)
def leapOf (y : Int) : Bool := decide ((1900 ≤ y ∧ y ≤ 2199) ∧ y % 4 = 0 ∧ (y % 100 ≠ 0 ∨ y % 400 = 0))
def lenTab (m : Int) : Int := if m = 2 then 28 else if m = 4 ∨ m = 6 ∨ m = 9 ∨ m = 11 then 30 else 31
def lenOf (y m : Int) : Int := if (1900 ≤ y ∧ y ≤ 2199) ∧ 1 ≤ m ∧ m ≤ 12 then (if m = 2 ∧ leapOf y = true then 29 else lenTab m) else 0

/-- The table of lengths lies in the program's one variable. -/

theorem ret_bool {a b : Bool} (h : a = b) : Ending.returned (.bool a) = .returned (.bool b) := by rw [h]



theorem len_tab (y m : Int) (hy : isYr y = true) (hm : 1 ≤ m ∧ m ≤ 12) (h2 : ¬(m = 2 ∧ leapOf y = true)) : lenOf y m = lenTab m := by
  have hy : 1900 ≤ y ∧ y ≤ 2199 := by simpa [isYr] using hy
  unfold lenOf; rw [if_pos ⟨hy, hm⟩, if_neg h2]
theorem len_feb (y m : Int) (hy : isYr y = true) (hm : m = 2) (h2 : leapOf y = true) : lenOf y m = 29 := by
  have hy : 1900 ≤ y ∧ y ≤ 2199 := by simpa [isYr] using hy
  unfold lenOf; rw [if_pos ⟨hy, by omega⟩, if_pos ⟨hm, h2⟩]
theorem len_none (y m : Int) (h : ¬isYr y = true ∨ m < 1 ∨ 12 < m) : lenOf y m = 0 := by
  have hy : isYr y = true ↔ 1900 ≤ y ∧ y ≤ 2199 := by simp [isYr]
  unfold lenOf; rw [if_neg]; intro hh; rcases h with h | h | h
  · exact h (hy.2 hh.1)
  · omega
  · omega





/- Plain numbers of dates: the first day of a year and of a month. Nothing of the program. -/
/-- The days of a year's first k months. -/
def cum (y : Int) : Nat → Int
  | 0 => 0
  | k + 1 => cum y k + lenOf y (k + 1)
/-- The number of a year's first day. -/
def base (y : Int) : Int := 365 * (y - 1900) + ((y - 1) / 4 - (y - 1) / 100 + (y - 1) / 400) - 460

theorem len_le (y m : Int) : 0 ≤ lenOf y m ∧ lenOf y m ≤ 31 := by
  unfold lenOf lenTab; (repeat' split) <;> omega
theorem len_ge (y m : Int) (hy : 1900 ≤ y ∧ y ≤ 2199) (hm : 1 ≤ m ∧ m ≤ 12) : 28 ≤ lenOf y m := by
  unfold lenOf lenTab; rw [if_pos ⟨hy, hm⟩]; (repeat' split) <;> omega
theorem cum_step (y : Int) (k : Nat) : cum y (k + 1) = cum y k + lenOf y (k + 1) := rfl
theorem cum_le (y : Int) (k : Nat) : 0 ≤ cum y k ∧ cum y k ≤ 31 * k := by
  induction k with
  | zero => simp [cum]
  | succ k ih => have := len_le y (k + 1); unfold cum; omega
theorem cum_mono (y : Int) {j k : Nat} (h : j ≤ k) : cum y j ≤ cum y k := by
  induction k with
  | zero => obtain rfl : j = 0 := by omega
            exact Int.le_refl _
  | succ k ih =>
    by_cases e : j = k + 1
    · subst e; exact Int.le_refl _
    · have := ih (by omega); have := len_le y (k + 1); rw [cum_step]; omega
theorem cum_year (y : Int) (hy : 1900 ≤ y ∧ y ≤ 2199) : cum y 12 = if leapOf y = true then 366 else 365 := by
  have e : ∀ m : Int, 1 ≤ m → m ≤ 12 → lenOf y m = if m = 2 ∧ leapOf y = true then 29 else lenTab m := fun m h1 h2 => by
    unfold lenOf; rw [if_pos ⟨hy, h1, h2⟩]
  show 0 + lenOf y 1 + lenOf y 2 + lenOf y 3 + lenOf y 4 + lenOf y 5 + lenOf y 6 + lenOf y 7 + lenOf y 8 + lenOf y 9 + lenOf y 10 + lenOf y 11 + lenOf y 12 = _
  rw [e 1 (by decide) (by decide), e 2 (by decide) (by decide), e 3 (by decide) (by decide), e 4 (by decide) (by decide), e 5 (by decide) (by decide), e 6 (by decide) (by decide), e 7 (by decide) (by decide), e 8 (by decide) (by decide), e 9 (by decide) (by decide), e 10 (by decide) (by decide), e 11 (by decide) (by decide), e 12 (by decide) (by decide)]
  by_cases h : leapOf y = true <;> simp [h, lenTab]
theorem base_next (y : Int) (hy : 1900 ≤ y ∧ y ≤ 2199) : base (y + 1) = base y + cum y 12 := by
  rw [cum_year y hy]
  have hl : leapOf y = true ↔ y % 4 = 0 ∧ (y % 100 ≠ 0 ∨ y % 400 = 0) := by simp [leapOf, hy]
  unfold base
  split
  · rename_i h; have := hl.1 h; omega
  · rename_i h; have : ¬(y % 4 = 0 ∧ (y % 100 ≠ 0 ∨ y % 400 = 0)) := fun k => h (hl.2 k)
    omega
theorem base_mono {y z : Int} (h : y ≤ z) : base y ≤ base z := by
  by_cases e : y = z
  · subst e; exact Int.le_refl _
  · unfold base; omega
theorem base_1900 : base 1900 = 0 := by decide
theorem base_2200 : base 2200 = 109573 := by decide
theorem base_le (y : Int) (h : 1900 ≤ y) : base y ≤ 366 * (y - 1900) := by unfold base; omega
theorem base_ge (y : Int) (h : 1900 ≤ y) : 0 ≤ base y := by unfold base; omega

/-- A number's month: the first day is not behind it, the next month's is. -/
structure InMonth (n y : Int) (m : Nat) : Prop where
  hy : 1900 ≤ y ∧ y ≤ 2199
  hm : 1 ≤ m ∧ m ≤ 12
  lo : base y + cum y (m - 1) ≤ n
  hi : n < base y + cum y m

theorem InMonth.not_year {n y z : Int} {m k : Nat} (a : InMonth n y m) (b : InMonth n z k) (h : y < z) : False := by
  have h1 := cum_mono y a.hm.2
  have h2 := base_next y a.hy
  have h3 := base_mono (y := y + 1) (z := z) (by omega)
  have h4 := (cum_le z (k - 1)).1
  have := a.hi; have := b.lo; omega
theorem InMonth.not_month {n y : Int} {m k : Nat} (a : InMonth n y m) (b : InMonth n y k) (h : m < k) : False := by
  have h1 := cum_mono y (j := m) (k := k - 1) (by omega)
  have := a.hi; have := b.lo; omega
theorem InMonth.unique {n y z : Int} {m k : Nat} (a : InMonth n y m) (b : InMonth n z k) : y = z ∧ m = k := by
  have e : y = z := by
    rcases Int.lt_trichotomy y z with h | h | h
    · exact (a.not_year b h).elim
    · exact h
    · exact (b.not_year a h).elim
  subst e
  refine ⟨rfl, ?_⟩
  rcases Nat.lt_trichotomy m k with h | h | h
  · exact (a.not_month b h).elim
  · exact h
  · exact (b.not_month a h).elim
theorem InMonth.range {n y : Int} {m : Nat} (a : InMonth n y m) : 0 ≤ n ∧ n < 109573 := by
  have h1 := base_ge y a.hy.1; have h2 := (cum_le y (m - 1)).1; have h3 := cum_mono y a.hm.2
  have h4 := base_next y a.hy; have h5 := base_mono (y := y + 1) (z := 2200) (by have := a.hy; omega)
  rw [base_2200] at h5
  have := a.lo; have := a.hi; omega
theorem InMonth.len {n y : Int} {m : Nat} (a : InMonth n y m) : n < base y + cum y (m - 1) + lenOf y m := by
  obtain ⟨k, rfl⟩ : ∃ k, m = k + 1 := ⟨m - 1, by have := a.hm; omega⟩
  have h := a.hi; rw [cum_step] at h
  simpa [Int.add_assoc] using h
/- Contracts of civil: the first day of a month. -/
/- Contracts of civil: the date of a number; numbers of dates; seconds and moments. -/

/- Contracts of civil: numbers of dates; seconds and moments. -/


def isTm (h m s : Int) : Bool := decide (0 ≤ h ∧ h < 24 ∧ 0 ≤ m ∧ m < 60 ∧ 0 ≤ s ∧ s < 60)

/-- A moment as a value. -/
@[reducible] def moment (y m d h i s : Int) : Value := .agg #[.int .i64 y, .int .i64 m, .int .i64 d, .int .i64 h, .int .i64 i, .int .i64 s]

/-- Six cells of a block. -/
def Six (w : World) (p : Nat) (a b c d e f : Value) : Prop := p < w.heap.size ∧ w.cell? ⟨p, 0, none⟩ = some a ∧ w.cell? ⟨p, 1, none⟩ = some b ∧ w.cell? ⟨p, 2, none⟩ = some c ∧ w.cell? ⟨p, 3, none⟩ = some d ∧ w.cell? ⟨p, 4, none⟩ = some e ∧ w.cell? ⟨p, 5, none⟩ = some f
theorem Six.grew {w w' : World} {p : Nat} {a b c d e f : Value} (h : Six w p a b c d e f) (g : Grew w w') : Six w' p a b c d e f := by
  obtain ⟨hp, h0, h1, h2, h3, h4, h5⟩ := h
  exact ⟨Nat.lt_of_lt_of_le hp g.size, (g.cell hp).trans h0, (g.cell hp).trans h1, (g.cell hp).trans h2, (g.cell hp).trans h3, (g.cell hp).trans h4, (g.cell hp).trans h5⟩
theorem six_new (w : World) (a b c d e f : Value) (E : TypeId) : ∃ W, w.alloc (.cells #[a, b, c, d, e, f] E) = W ∧ Grew w W ∧ Six W w.heap.size a b c d e f := by
  refine ⟨_, rfl, (Grew.refl _).alloc _, by simp, ?_, ?_, ?_, ?_, ?_, ?_⟩ <;> simp [go_sem]


/- Contracts of civil: the moment of a second. -/
/-- Six cells of a block, that may be written. -/
def Wet (w : World) (p : Nat) : Prop := w.frozen? ⟨p, 0, none⟩ = false ∧ w.frozen? ⟨p, 1, none⟩ = false ∧ w.frozen? ⟨p, 2, none⟩ = false ∧ w.frozen? ⟨p, 3, none⟩ = false ∧ w.frozen? ⟨p, 4, none⟩ = false ∧ w.frozen? ⟨p, 5, none⟩ = false
theorem Wet.grew {w w' : World} {p : Nat} (h : Wet w p) (hp : p < w.heap.size) (g : Grew w w') : Wet w' p := by
  obtain ⟨h0, h1, h2, h3, h4, h5⟩ := h
  exact ⟨(g.frozen hp).trans h0, (g.frozen hp).trans h1, (g.frozen hp).trans h2, (g.frozen hp).trans h3, (g.frozen hp).trans h4, (g.frozen hp).trans h5⟩
theorem six_wet (w : World) (a b c d e f : Value) (E : TypeId) : ∃ W, w.alloc (.cells #[a, b, c, d, e, f] E) = W ∧ Grew w W ∧ Six W w.heap.size a b c d e f ∧ Wet W w.heap.size := by
  refine ⟨_, rfl, (Grew.refl _).alloc _, ⟨by simp, ?_, ?_, ?_, ?_, ?_, ?_⟩, ?_, ?_, ?_, ?_, ?_, ?_⟩ <;> simp [go_sem]
theorem six_put {w w1 : World} (p : Nat) (g : Grew w w1) (hp : w.heap.size ≤ p) (a b c d e f : Value) :
    Grew w ((((((w1.setCell ⟨p, 0, none⟩ a).setCell ⟨p, 1, none⟩ b).setCell ⟨p, 2, none⟩ c).setCell ⟨p, 3, none⟩ d).setCell ⟨p, 4, none⟩ e).setCell ⟨p, 5, none⟩ f) :=
  (((((g.setCell hp _).setCell hp _).setCell hp _).setCell hp _).setCell hp _).setCell hp _


/- Contracts of the document's dates: leap years, lengths, numbers of dates. -/





/- The known answers of civil; the walk of the law on dates. -/

/- Contracts of the document's seconds and moments. -/
theorem ret_pair_int {k l : IntKind} {a b : Int} {v : Value} (h : a = b) : Ending.returned (.tuple #[.int k a, v]) = .returned (.tuple #[.int k b, v]) := by rw [h]



end Go.Proofs.YtcdmbnbanopioaaGreatDoor

namespace Go.Proofs.YtcdmbnbanopioaaGreatDoor
open Go.RowKit
set_option linter.unusedVariables false

theorem six_two (w : World) (a b c d e f a' b' c' d' e' f' : Value) (E : TypeId) : ∃ W, (w.alloc (.cells #[a, b, c, d, e, f] E)).alloc (.cells #[a', b', c', d', e', f'] E) = W ∧ Grew w W ∧ Six W w.heap.size a b c d e f ∧ Wet W w.heap.size ∧ Six W (w.heap.size + 1) a' b' c' d' e' f' ∧ Wet W (w.heap.size + 1) := by
  refine ⟨_, rfl, ((Grew.refl _).alloc _).alloc _, ⟨by simp; omega, ?_, ?_, ?_, ?_, ?_, ?_⟩, ⟨?_, ?_, ?_, ?_, ?_, ?_⟩, ⟨by simp, ?_, ?_, ?_, ?_, ?_, ?_⟩, ?_, ?_, ?_, ?_, ?_, ?_⟩ <;> simp [go_sem]

end Go.Proofs.YtcdmbnbanopioaaGreatDoor

namespace Go.Proofs.YtcdmbnbanopioaaGreatDoor
open Go.RowKit
set_option linter.unusedVariables false

theorem find_step (f : Nat → Int) (n : Int) (h0 : f 0 ≤ n) : ∀ k, n < f k → ∃ j, j < k ∧ f j ≤ n ∧ n < f (j + 1)
  | 0, h => by omega
  | k + 1, h => by
    by_cases hk : n < f k
    · obtain ⟨j, h1, h2, h3⟩ := find_step f n h0 k hk
      exact ⟨j, by omega, h2, h3⟩
    · exact ⟨k, by omega, by omega, h⟩
theorem exists_month (n : Int) (h : 0 ≤ n ∧ n < 109573) : ∃ (y : Int) (m : Nat), InMonth n y m := by
  obtain ⟨j, hj, h1, h2⟩ := find_step (fun k => base (1900 + k)) n (by show base (1900 + 0) ≤ n; rw [Int.add_zero, base_1900]; exact h.1) 300 (by show n < base 2200; rw [base_2200]; exact h.2)
  have hy : 1900 ≤ (1900 + j : Int) ∧ (1900 + j : Int) ≤ 2199 := by omega
  have hn := base_next (1900 + j) hy
  simp only [Int.natCast_add, Int.cast_ofNat_Int] at h2
  rw [show (1900 + ((j : Int) + 1)) = 1900 + (j : Int) + 1 by omega, hn] at h2
  obtain ⟨k, hk, h3, h4⟩ := find_step (fun k => base (1900 + j) + cum (1900 + j) k) n (by simpa [cum] using h1) 12 h2
  exact ⟨1900 + j, k + 1, hy, by omega, by simpa using h3, h4⟩



end Go.Proofs.YtcdmbnbanopioaaGreatDoor

namespace Go.Proofs.YtcdmbnbanopioaaGreatDoor
open Go.RowKit
set_option linter.unusedVariables false

/-- So many digits of a number, the greatest first. -/
def digL : Nat → Nat → List UInt8
  | 0, _ => []
  | k + 1, n => digL k (n / 10) ++ [UInt8.ofNat (48 + n % 10)]
theorem digL_length : ∀ k n, (digL k n).length = k
  | 0, _ => rfl
  | k + 1, n => by rw [digL, List.length_append, digL_length k]; rfl
theorem digL_cons : ∀ k n, digL (k + 1) n = UInt8.ofNat (48 + n / 10 ^ k % 10) :: digL k n
  | 0, n => by simp [digL]
  | k + 1, n => by
    rw [digL, digL_cons k (n / 10), digL, Nat.div_div_eq_div_mul, Nat.pow_succ, Nat.mul_comm (10 ^ k) 10]
    rfl
theorem digL_zero : ∀ k, digL k 0 = List.replicate k 48
  | 0 => rfl
  | k + 1 => by
    rw [digL, Nat.zero_div, digL_zero k, List.replicate_succ']
    rfl
theorem dec_len : ∀ k n, 1 ≤ k → n < 10 ^ k → (Lib.decDigits n).length ≤ k
  | 0, _, h, _ => absurd h (by decide)
  | k + 1, n, _, h => by
    rw [Lib.decDigits]
    split
    · simp
    · rename_i h10
      have hk : 1 ≤ k := by
        rcases Nat.eq_zero_or_pos k with rfl | q
        · simp at h; omega
        · exact q
      have := dec_len k (n / 10) hk (by rw [Nat.pow_succ] at h; omega)
      rw [List.length_append, List.length_singleton]
      omega
/-- A number's digits with noughts ahead are so many of its digits. -/
theorem dec_pad : ∀ k n, 1 ≤ k → n < 10 ^ k → List.replicate (k - (Lib.decDigits n).length) 48 ++ Lib.decDigits n = digL k n
  | 0, _, h, _ => absurd h (by decide)
  | k + 1, n, _, h => by
    by_cases h10 : n < 10
    · have e : Lib.decDigits n = [UInt8.ofNat (48 + n)] := by rw [Lib.decDigits, dif_pos h10]
      rw [e, digL, show n / 10 = 0 by omega, digL_zero, Nat.mod_eq_of_lt h10]
      rfl
    · have e : Lib.decDigits n = Lib.decDigits (n / 10) ++ [UInt8.ofNat (48 + n % 10)] := by rw [Lib.decDigits, dif_neg h10]
      have hk : 1 ≤ k := by
        rcases Nat.eq_zero_or_pos k with rfl | q
        · simp at h; omega
        · exact q
      rw [e, digL, ← dec_pad k (n / 10) hk (by rw [Nat.pow_succ] at h; omega), List.length_append, List.length_singleton, Nat.add_sub_add_right, List.append_assoc]
theorem rep_48 : ∀ c, Lib.repeatL [48] c = List.replicate c 48
  | 0 => rfl
  | c + 1 => by rw [Lib.repeatL, rep_48 c]; rfl
theorem itoa_nat (n : Nat) : Lib.itoa (n : Int) = Lib.decDigits n := by
  unfold Lib.itoa
  rw [if_neg (by omega)]
  rfl

/-- A number with noughts ahead, as the program lays it. -/
def padB (least n : Nat) : ByteArray := ⟨(Lib.repeatL [48] (least - (Lib.decDigits n).length)).toArray⟩ ++ ⟨(Lib.decDigits n).toArray⟩
/-- So many digits of a number as a text. -/
def digB (k n : Nat) : ByteArray := ⟨(digL k n).toArray⟩
theorem padB_eq (k n : Nat) (hk : 1 ≤ k) (hn : n < 10 ^ k) : padB k n = digB k n := by
  apply nat_ext
  unfold padB digB
  rw [nat_append, nat_mk, nat_mk, nat_mk, rep_48, ← List.map_append, dec_pad k n hk hn]
theorem padB_ten : padB 1 10 = ⟨#[49, 48]⟩ := by kernel_rfl
theorem digB_size (k n : Nat) : (digB k n).size = k := by rw [← nat_length]; unfold digB; rw [nat_mk, List.length_map, digL_length]
theorem padB_size (least n : Nat) (hl : least ≤ 4) (hn : n < 10000) : (padB least n).size ≤ 8 := by
  have := dec_len 4 n (by decide) hn
  rw [← nat_length]; unfold padB
  rw [nat_append, nat_mk, nat_mk, List.length_append, List.length_map, List.length_map, rep_48, List.length_replicate]
  omega
/-- Numbers side by side, as the program lays them. -/
def padTo (least : Nat) (ns : List Nat) : Nat → ByteArray
  | 0 => ⟨#[]⟩
  | j + 1 => padTo least ns j ++ padB least (wd ns j)
theorem padTo_size (least : Nat) (ns : List Nat) (hl : least ≤ 4) (hn : ∀ i, wd ns i < 10000) : ∀ j, (padTo least ns j).size ≤ 8 * j
  | 0 => Nat.le_refl _
  | j + 1 => by
    have h1 := padTo_size least ns hl hn j
    have h2 := padB_size least (wd ns j) hl (hn j)
    rw [padTo, ByteArray.size_append]
    omega
theorem cat_nil (s : ByteArray) : (⟨#[]⟩ : ByteArray) ++ s = s := nat_ext (by rw [nat_append]; rfl)
theorem padTo_one (least n : Nat) : padTo least [n] 1 = padB least n := by
  show (⟨#[]⟩ : ByteArray) ++ padB least n = _
  rw [cat_nil]
theorem padTo_three (least a b c : Nat) : padTo least [a, b, c] 3 = padB least a ++ padB least b ++ padB least c := by
  show (⟨#[]⟩ : ByteArray) ++ padB least a ++ padB least b ++ padB least c = _
  rw [cat_nil]

/-- A kind's letters, and its number in a SiRF receiver's commands. -/
def kindText (k : Nat) : ByteArray := if k = 1 then ⟨#[82, 77, 67]⟩ else if k = 2 then ⟨#[71, 71, 65]⟩ else if k = 3 then ⟨#[71, 76, 76]⟩ else if k = 4 then ⟨#[71, 83, 65]⟩ else if k = 5 then ⟨#[90, 68, 65]⟩ else if k = 6 then ⟨#[86, 84, 71]⟩ else if k = 7 then ⟨#[71, 83, 86]⟩ else ⟨#[]⟩
def kindNum (k : Nat) : Nat := if k = 1 then 4 else if k = 2 then 0 else if k = 3 then 1 else if k = 4 then 2 else if k = 5 then 8 else if k = 6 then 5 else if k = 7 then 3 else 0
/-- May a command be? -/
def cmdErr (k : Nat) (every : Int) : Nat := if k = 0 ∨ 7 < k then 7 else if every < 0 ∨ 10 < every then 2 else 0
/-- How often, in digits. -/
def everyB (e : Nat) : ByteArray := if e = 10 then ⟨#[49, 48]⟩ else digB 1 e
theorem every_pad (e : Nat) (h : e ≤ 10) : padB 1 e = everyB e := by
  unfold everyB
  split
  · subst_vars; exact padB_ten
  · exact padB_eq 1 e (by decide) (by omega)
theorem every_size (e : Nat) : (everyB e).size ≤ 2 := by
  unfold everyB
  split
  · exact Nat.le_refl _
  · rw [digB_size]; decide
/-- The bodies. -/
def rateB (L : ByteArray) (e : Nat) : ByteArray := (⟨#[80, 85, 66, 88, 44, 52, 48, 44]⟩ : ByteArray) ++ L ++ ⟨#[44, 48, 44]⟩ ++ everyB e ++ ⟨#[44, 48, 44, 48, 44, 48, 44, 48]⟩
def askB (n e : Nat) : ByteArray := (⟨#[80, 83, 82, 70, 49, 48, 51, 44]⟩ : ByteArray) ++ digB 2 n ++ ⟨#[44, 48, 44]⟩ ++ digB 2 e ++ ⟨#[44, 49]⟩
def noneB : ByteArray := ⟨#[71, 80, 90, 68, 65, 44, 44, 44, 44, 44, 48, 48, 44, 48, 48]⟩
def clockB (y m d h i s : Nat) : ByteArray := (⟨#[71, 80, 90, 68, 65, 44]⟩ : ByteArray) ++ (digB 2 h ++ digB 2 i ++ digB 2 s) ++ ⟨#[44]⟩ ++ digB 2 d ++ ⟨#[44]⟩ ++ digB 2 m ++ ⟨#[44]⟩ ++ digB 4 y ++ ⟨#[44, 48, 48, 44, 48, 48]⟩
theorem kindText_size (k : Nat) : (kindText k).size ≤ 3 := by
  unfold kindText
  (repeat' split) <;> decide
theorem kindNum_lt (k : Nat) : kindNum k < 10 := by
  unfold kindNum
  (repeat' split) <;> decide
theorem dig_three (h i s : Nat) (hh : h < 100) (hi : i < 100) (hs : s < 100) : digB 2 h ++ digB 2 i ++ digB 2 s = digB 6 (h * 10000 + i * 100 + s) := by
  apply nat_ext
  rw [nat_append, nat_append]
  unfold digB
  rw [nat_mk, nat_mk, nat_mk, nat_mk, ← List.map_append, ← List.map_append]
  congr 1
  simp only [digL, List.nil_append, List.cons_append]
  have e1 : (h * 10000 + i * 100 + s) % 10 = s % 10 := by omega
  have e2 : (h * 10000 + i * 100 + s) / 10 % 10 = s / 10 % 10 := by omega
  have e3 : (h * 10000 + i * 100 + s) / 10 / 10 % 10 = i % 10 := by omega
  have e4 : (h * 10000 + i * 100 + s) / 10 / 10 / 10 % 10 = i / 10 % 10 := by omega
  have e5 : (h * 10000 + i * 100 + s) / 10 / 10 / 10 / 10 % 10 = h % 10 := by omega
  have e6 : (h * 10000 + i * 100 + s) / 10 / 10 / 10 / 10 / 10 % 10 = h / 10 % 10 := by omega
  rw [e1, e2, e3, e4, e5, e6]

/-- What a body's sentence tells: the error, the bytes. -/
def sentErr (s : ByteArray) : Nat := if s.size = 0 then 4 else frameErr 1 (nat s)
def sentRow (s : ByteArray) : List Nat := if s.size = 0 then [] else frameBytes 1 (nat s)
def SaidT (er : Nat) (L : List Nat) (w : World) (e : Ending) (w' : World) : Prop :=
  ∃ v, e = .returned (.tuple #[v, .int .i64 (er : Nat)]) ∧ Row .u8 w' v L ∧ Grew w w'
theorem saidT_none (er : Nat) {w w' : World} (g : Grew w w') : SaidT er [] w (.returned (.tuple #[.slice none 0 0, .int .i64 (er : Nat)])) w' := ⟨_, rfl, Row.nil _ _, g⟩
theorem nat_bytes (s : ByteArray) : Bytes (nat s) := fun i => nat_lt s i

theorem rateB_size (L : ByteArray) (e : Nat) : (rateB L e).size = 8 + L.size + 3 + (everyB e).size + 8 := by
  unfold rateB
  rw [ByteArray.size_append, ByteArray.size_append, ByteArray.size_append, ByteArray.size_append]
  rfl
theorem askB_size (n e : Nat) : (askB n e).size = 17 := by
  unfold askB
  rw [ByteArray.size_append, ByteArray.size_append, ByteArray.size_append, ByteArray.size_append, digB_size, digB_size]
  rfl
theorem clockB_size (y m d h i s : Nat) : (clockB y m d h i s).size = 29 := by
  unfold clockB
  rw [ByteArray.size_append, ByteArray.size_append, ByteArray.size_append, ByteArray.size_append, ByteArray.size_append, ByteArray.size_append, ByteArray.size_append, ByteArray.size_append, ByteArray.size_append, ByteArray.size_append, digB_size, digB_size, digB_size, digB_size, digB_size, digB_size]
  rfl
end Go.Proofs.YtcdmbnbanopioaaGreatDoor

namespace Go.Proofs
open Go.Shelf
def Tryz.lays170_ren : Go.Shelf.Ren := ⟨fun | 170 => 86 | n => n, fun | 70 => 134 | 3 => 3 | 0 => 0 | 72 => 136 | 37 => 25 | 5 => 5 | n => n, fun | n => n⟩
theorem Tryz.lays170 : Go.Proofs.Lays.n170 Tryz.prog Tryz.lays170_ren := {
  mixed := by kernel_rfl
  f170 := Tryz.func86.trans (congrArg some (by kernel_rfl))
  t0 := Tryz.underlying0
  a0 := Tryz.isAgg0
  z0 := Tryz.sizeOf0
  v0 := Tryz.zeroValue0
  t3 := Tryz.underlying3
  a3 := Tryz.isAgg3
  z3 := Tryz.sizeOf3
  v3 := Tryz.zeroValue3
  t37 := Tryz.underlying25
  a37 := Tryz.isAgg25
  z37 := Tryz.sizeOf25
  v37 := Tryz.zeroValue25
  t70 := Tryz.underlying134
  a70 := Tryz.isAgg134
  z70 := Tryz.sizeOf134
  v70 := Tryz.zeroValue134
  t72 := Tryz.underlying136
  a72 := Tryz.isAgg136
  z72 := Tryz.sizeOf136
  v72 := Tryz.zeroValue136 }
open Go.RowKit in
/-- (*strings.Builder).Len: "Len returns the number of accumulated bytes; b.Len() == len(b.String()).": the world is as it was. (LAID: no walk: one application.) -/
theorem Tryz.Builder_Len (B b : Nat) (bs : List Value) (w : World) (h : Lib.IsBuilder 136 5 B b bs w) :
    Calls Tryz.prog 86 #[.pointer (some ⟨b, 0, none⟩)] w fun e w' => e = .returned (.int .i64 bs.length) ∧ w' = w := Any.Builder_Len Tryz.lays170 B b bs w h
def Tryz.lays169_ren : Go.Shelf.Ren := ⟨fun | 169 => 87 | n => n, fun | 70 => 134 | 9 => 9 | 0 => 0 | 72 => 136 | 37 => 25 | 127 => 154 | 3 => 3 | 5 => 5 | n => n, fun | n => n⟩
theorem Tryz.lays169 : Go.Proofs.Lays.n169 Tryz.prog Tryz.lays169_ren := {
  mixed := by kernel_rfl
  f169 := Tryz.func87.trans (congrArg some (by kernel_rfl))
  t0 := Tryz.underlying0
  a0 := Tryz.isAgg0
  z0 := Tryz.sizeOf0
  v0 := Tryz.zeroValue0
  t3 := Tryz.underlying3
  a3 := Tryz.isAgg3
  z3 := Tryz.sizeOf3
  v3 := Tryz.zeroValue3
  t9 := Tryz.underlying9
  a9 := Tryz.isAgg9
  z9 := Tryz.sizeOf9
  v9 := Tryz.zeroValue9
  t37 := Tryz.underlying25
  a37 := Tryz.isAgg25
  z37 := Tryz.sizeOf25
  v37 := Tryz.zeroValue25
  t70 := Tryz.underlying134
  a70 := Tryz.isAgg134
  z70 := Tryz.sizeOf134
  v70 := Tryz.zeroValue134
  t72 := Tryz.underlying136
  a72 := Tryz.isAgg136
  z72 := Tryz.sizeOf136
  v72 := Tryz.zeroValue136
  t127 := Tryz.underlying154
  a127 := Tryz.isAgg154
  z127 := Tryz.sizeOf154
  v127 := Tryz.zeroValue154 }
theorem Tryz.Builder_Extra_169 : Builder.Extra Tryz.prog Tryz.lays169_ren := {
  sizeBuilder := by kernel_rfl
  liesBuilder := by kernel_rfl
  t5 := Tryz.underlying5
  a5 := Tryz.isAgg5
  z5 := Tryz.sizeOf5
  v5 := Tryz.zeroValue5
  infoByte := by kernel_rfl
  cellsByte := by kernel_rfl
  sizeByte := by kernel_rfl
  neB5 := by decide }
open Go.RowKit in
/-- (*strings.Builder).String: "String returns the accumulated string.": OF A BUILDER THAT HOLDS AT LEAST ONE BYTE. ✋ THE MODEL FREEZES THOSE BYTES IN THE BUFFER (unsafe.String): a later write INTO them ends the model's run without an answer; a later append BEHIND them goes on. The statement's order of evaluation is drawn: one draw. (LAID: no walk: one application.) -/
theorem Tryz.Builder_String (B b : Nat) (l : List UInt8) (w : World) (h : Lib.IsBuilder 136 5 B b (Lib.byteCells l) w) (h0 : l ≠ []) :
    Calls Tryz.prog 87 #[.pointer (some ⟨b, 0, none⟩)] w fun e w' => e = .returned (.string ⟨l.toArray⟩) ∧ Below B w w' := Any.Builder_String Tryz.lays169 Tryz.Builder_Extra_169 B b l w h h0
open Go.RowKit in
/-- (*strings.Builder).String OF A BUILDER THAT HOLDS NO BYTE: the empty string. (Its buffer is nil, or a row of which it has taken nothing yet; where that row has NO capacity the model lays one new block for unsafe.SliceData's 'some address'.) One draw. (LAID: no walk: one application.) -/
theorem Tryz.Builder_String_empty (B b : Nat) (w : World) (h : Lib.IsBuilder 136 5 B b [] w) (hBw : B ≤ w.heap.size) :
    Calls Tryz.prog 87 #[.pointer (some ⟨b, 0, none⟩)] w fun e w' => e = .returned (.string ⟨#[]⟩) ∧ Below B w w' := Any.Builder_String_empty Tryz.lays169 Tryz.Builder_Extra_169 B b w h hBw
open Go.RowKit in
/-- (*strings.Builder).String: "String returns the accumulated string.": WHATEVER THE BUILDER HOLDS. (LAID: no walk: one application.) -/
theorem Tryz.Builder_String_any (B b : Nat) (l : List UInt8) (w : World) (h : Lib.IsBuilder 136 5 B b (Lib.byteCells l) w) (hBw : B ≤ w.heap.size) :
    Calls Tryz.prog 87 #[.pointer (some ⟨b, 0, none⟩)] w fun e w' => e = .returned (.string ⟨l.toArray⟩) ∧ Below B w w' := Any.Builder_String_any Tryz.lays169 Tryz.Builder_Extra_169 B b l w h hBw
def Tryz.lays241_ren : Go.Shelf.Ren := ⟨fun | 241 => 102 | 277 => 111 | n => n, fun | 70 => 134 | 3 => 3 | 0 => 0 | 72 => 136 | 37 => 25 | 5 => 5 | n => n, fun | n => n⟩
theorem Tryz.lays241 : Go.Proofs.Lays.n241 Tryz.prog Tryz.lays241_ren := {
  mixed := by kernel_rfl
  f241 := Tryz.func102.trans (congrArg some (by kernel_rfl))
  f277 := Tryz.func111.trans (congrArg some (by kernel_rfl))
  t0 := Tryz.underlying0
  a0 := Tryz.isAgg0
  z0 := Tryz.sizeOf0
  v0 := Tryz.zeroValue0
  t3 := Tryz.underlying3
  a3 := Tryz.isAgg3
  z3 := Tryz.sizeOf3
  v3 := Tryz.zeroValue3
  t37 := Tryz.underlying25
  a37 := Tryz.isAgg25
  z37 := Tryz.sizeOf25
  v37 := Tryz.zeroValue25
  t70 := Tryz.underlying134
  a70 := Tryz.isAgg134
  z70 := Tryz.sizeOf134
  v70 := Tryz.zeroValue134
  t72 := Tryz.underlying136
  a72 := Tryz.isAgg136
  z72 := Tryz.sizeOf136
  v72 := Tryz.zeroValue136 }
theorem Tryz.Builder_Extra_241 : Builder.Extra Tryz.prog Tryz.lays241_ren := {
  sizeBuilder := by kernel_rfl
  liesBuilder := by kernel_rfl
  t5 := Tryz.underlying5
  a5 := Tryz.isAgg5
  z5 := Tryz.sizeOf5
  v5 := Tryz.zeroValue5
  infoByte := by kernel_rfl
  cellsByte := by kernel_rfl
  sizeByte := by kernel_rfl
  neB5 := by decide }
open Go.RowKit in
/-- (*strings.Builder).grow (no doc but "grow copies the buffer to a new, larger buffer so that there are at least n bytes of capacity beyond len(b.buf)."): AT A BUILDER WITHOUT A BUFFER: a new row of whatever bytes for its buffer, none of them its own yet. Three draws. (LAID: no walk: one application.) -/
theorem Tryz.Builder_grow_fresh (B b n : Nat) (w : World) (hB : B ≤ b) (hbk : w.heap[b]? = some (.cells #[.pointer (some ⟨b, 0, none⟩), .slice none 0 0] 136 (0, 0))) (hBw : B ≤ w.heap.size) (hn : n ≤ 281474976710656) :
    Calls Tryz.prog 102 #[.pointer (some ⟨b, 0, none⟩), .int .i64 n] w fun e w' => e = .returned (.tuple #[]) ∧ (Lib.BuilderAt 136 5 B b (.pointer (some ⟨b, 0, none⟩)) [] w' ∧ Below B w w') := Any.Builder_grow_fresh Tryz.lays241 Tryz.Builder_Extra_241 B b n w hB hbk hBw hn
def Tryz.lays165_ren : Go.Shelf.Ren := ⟨fun | 165 => 84 | 240 => 101 | 241 => 102 | 276 => 110 | 277 => 111 | n => n, fun | 70 => 134 | 3 => 3 | 0 => 0 | 4 => 4 | 9 => 9 | 20 => 20 | 72 => 136 | 37 => 25 | 164 => 163 | 5 => 5 | n => n, fun | n => n⟩
theorem Tryz.lays165 : Go.Proofs.Lays.n165 Tryz.prog Tryz.lays165_ren := {
  mixed := by kernel_rfl
  f165 := Tryz.func84.trans (congrArg some (by kernel_rfl))
  f240 := Tryz.func101.trans (congrArg some (by kernel_rfl))
  f241 := Tryz.func102.trans (congrArg some (by kernel_rfl))
  f276 := Tryz.func110.trans (congrArg some (by kernel_rfl))
  f277 := Tryz.func111.trans (congrArg some (by kernel_rfl))
  t0 := Tryz.underlying0
  a0 := Tryz.isAgg0
  z0 := Tryz.sizeOf0
  v0 := Tryz.zeroValue0
  t3 := Tryz.underlying3
  a3 := Tryz.isAgg3
  z3 := Tryz.sizeOf3
  v3 := Tryz.zeroValue3
  t4 := Tryz.underlying4
  a4 := Tryz.isAgg4
  z4 := Tryz.sizeOf4
  v4 := Tryz.zeroValue4
  t9 := Tryz.underlying9
  a9 := Tryz.isAgg9
  z9 := Tryz.sizeOf9
  v9 := Tryz.zeroValue9
  t20 := Tryz.underlying20
  a20 := Tryz.isAgg20
  z20 := Tryz.sizeOf20
  v20 := Tryz.zeroValue20
  t37 := Tryz.underlying25
  a37 := Tryz.isAgg25
  z37 := Tryz.sizeOf25
  v37 := Tryz.zeroValue25
  t70 := Tryz.underlying134
  a70 := Tryz.isAgg134
  z70 := Tryz.sizeOf134
  v70 := Tryz.zeroValue134
  t72 := Tryz.underlying136
  a72 := Tryz.isAgg136
  z72 := Tryz.sizeOf136
  v72 := Tryz.zeroValue136
  t164 := Tryz.underlying163
  a164 := Tryz.isAgg163
  z164 := Tryz.sizeOf163
  v164 := Tryz.zeroValue163 }
theorem Tryz.Builder_Extra_165 : Builder.Extra Tryz.prog Tryz.lays165_ren := {
  sizeBuilder := by kernel_rfl
  liesBuilder := by kernel_rfl
  t5 := Tryz.underlying5
  a5 := Tryz.isAgg5
  z5 := Tryz.sizeOf5
  v5 := Tryz.zeroValue5
  infoByte := by kernel_rfl
  cellsByte := by kernel_rfl
  sizeByte := by kernel_rfl
  neB5 := by decide }
open Go.RowKit in
/-- (*strings.Builder).Grow AT A BUILDER THAT HAS NOT BEEN WRITTEN ('var b strings.Builder; b.Grow(n)'): "Grow grows b's capacity, if necessary, to guarantee space for another n bytes.": it holds no byte behind it as before it. (LAID: no walk: one application.) -/
theorem Tryz.Builder_Grow_fresh (B b n : Nat) (w : World) (hB : B ≤ b) (hbk : w.heap[b]? = some (.cells #[.pointer none, .slice none 0 0] 136 (0, 0))) (hBw : B ≤ w.heap.size) (hn : n ≤ 281474976710656) :
    Calls Tryz.prog 84 #[.pointer (some ⟨b, 0, none⟩), .int .i64 n] w fun e w' => e = .returned (.tuple #[]) ∧ (Lib.BuilderAt 136 5 B b (.pointer (some ⟨b, 0, none⟩)) [] w' ∧ Below B w w') := Any.Builder_Grow_fresh Tryz.lays165 Tryz.Builder_Extra_165 B b n w hB hbk hBw hn
open Go.RowKit in
/-- (*strings.Builder).Len: "Len returns the number of accumulated bytes; b.Len() == len(b.String()).": the world is as it was. (THE FORM '_f': 'Lib.IsBuilderF'.) (LAID: no walk: one application.) -/
theorem Tryz.Builder_Len_f (B b : Nat) (bs : List Value) (w : World) (h : Lib.IsBuilderF 136 5 B b bs w) :
    Calls Tryz.prog 86 #[.pointer (some ⟨b, 0, none⟩)] w fun e w' => e = .returned (.int .i64 bs.length) ∧ w' = w := Any.Builder_Len_f Tryz.lays170 B b bs w h
open Go.RowKit in
/-- (*strings.Builder).String: "String returns the accumulated string.": OF A BUILDER THAT HOLDS AT LEAST ONE BYTE. ✋ THE MODEL FREEZES THOSE BYTES IN THE BUFFER (unsafe.String): a later write INTO them ends the model's run without an answer; a later append BEHIND them goes on. The statement's order of evaluation is drawn: one draw. THE FORM '_f': IT SAYS BESIDES THAT THE BUILDER IS A BUILDER STILL ('Lib.IsBuilderF', the same bytes): SO IT CAN BE WRITTEN ON: 'b.WriteString(b.String()[:k])'. (LAID: no walk: one application.) -/
theorem Tryz.Builder_String_f (B b : Nat) (l : List UInt8) (w : World) (h : Lib.IsBuilderF 136 5 B b (Lib.byteCells l) w) (h0 : l ≠ []) :
    Calls Tryz.prog 87 #[.pointer (some ⟨b, 0, none⟩)] w fun e w' => e = .returned (.string ⟨l.toArray⟩) ∧ (Lib.IsBuilderF 136 5 B b (Lib.byteCells l) w' ∧ Below B w w') := Any.Builder_String_f Tryz.lays169 Tryz.Builder_Extra_169 B b l w h h0
open Go.RowKit in
/-- (*strings.Builder).String OF A BUILDER THAT HOLDS NO BYTE: the empty string; THE FORM '_f': a builder still. (LAID: no walk: one application.) -/
theorem Tryz.Builder_String_empty_f (B b : Nat) (w : World) (h : Lib.IsBuilderF 136 5 B b [] w) (hBw : B ≤ w.heap.size) :
    Calls Tryz.prog 87 #[.pointer (some ⟨b, 0, none⟩)] w fun e w' => e = .returned (.string ⟨#[]⟩) ∧ (Lib.IsBuilderF 136 5 B b [] w' ∧ Below B w w') := Any.Builder_String_empty_f Tryz.lays169 Tryz.Builder_Extra_169 B b w h hBw
open Go.RowKit in
/-- (*strings.Builder).String: "String returns the accumulated string.": WHATEVER THE BUILDER HOLDS; THE FORM '_f': OF A BUILDER THAT MAY HAVE BEEN READ BEFORE; AND IT IS A BUILDER STILL, holding the same bytes: it can be written on. (LAID: no walk: one application.) -/
theorem Tryz.Builder_String_any_f (B b : Nat) (l : List UInt8) (w : World) (h : Lib.IsBuilderF 136 5 B b (Lib.byteCells l) w) (hBw : B ≤ w.heap.size) :
    Calls Tryz.prog 87 #[.pointer (some ⟨b, 0, none⟩)] w fun e w' => e = .returned (.string ⟨l.toArray⟩) ∧ (Lib.IsBuilderF 136 5 B b (Lib.byteCells l) w' ∧ Below B w w') := Any.Builder_String_any_f Tryz.lays169 Tryz.Builder_Extra_169 B b l w h hBw
def Tryz.lays129_ren : Go.Shelf.Ren := ⟨fun | 129 => 113 | n => n, fun | 53 => 92 | 3 => 3 | 4 => 4 | 46 => 82 | 5 => 5 | 9 => 9 | n => n, fun | n => n⟩
theorem Tryz.lays129 : Go.Proofs.Lays.n129 Tryz.prog Tryz.lays129_ren := {
  mixed := by kernel_rfl
  f129 := Tryz.func113.trans (congrArg some (by kernel_rfl))
  t3 := Tryz.underlying3
  a3 := Tryz.isAgg3
  z3 := Tryz.sizeOf3
  v3 := Tryz.zeroValue3
  t4 := Tryz.underlying4
  a4 := Tryz.isAgg4
  z4 := Tryz.sizeOf4
  v4 := Tryz.zeroValue4
  t5 := Tryz.underlying5
  a5 := Tryz.isAgg5
  z5 := Tryz.sizeOf5
  v5 := Tryz.zeroValue5
  t9 := Tryz.underlying9
  a9 := Tryz.isAgg9
  z9 := Tryz.sizeOf9
  v9 := Tryz.zeroValue9
  t46 := Tryz.underlying82
  a46 := Tryz.isAgg82
  z46 := Tryz.sizeOf82
  v46 := Tryz.zeroValue82
  t53 := Tryz.underlying92
  a53 := Tryz.isAgg92
  z53 := Tryz.sizeOf92
  v53 := Tryz.zeroValue92 }
/-- bits.Len64: "Len64 returns the minimum number of bits required to represent x; the result is 0 for x == 0.": IT RETURNS 'Lib.bitLen x'; the world is as it was. ('h0', 'h1': x is a uint64.) (LAID: no walk: one application.) -/
theorem Tryz.bits_Len64 (x : Int) (w : World) (h0 : 0 ≤ x) (h1 : x ≤ 18446744073709551615) :
    Calls Tryz.prog 113 #[.int .u64 x] w fun e w' => e = .returned (.int .i64 (Lib.bitLen x.toNat)) ∧ w' = w := Any.bits_Len64 Tryz.lays129 x w h0 h1
def Tryz.lays317_ren : Go.Shelf.Ren := ⟨fun | 317 => 112 | n => n, fun | 3 => 3 | 46 => 82 | n => n, fun | n => n⟩
theorem Tryz.lays317 : Go.Proofs.Lays.n317 Tryz.prog Tryz.lays317_ren := {
  mixed := by kernel_rfl
  f317 := Tryz.func112.trans (congrArg some (by kernel_rfl))
  t3 := Tryz.underlying3
  a3 := Tryz.isAgg3
  z3 := Tryz.sizeOf3
  v3 := Tryz.zeroValue3
  t46 := Tryz.underlying82
  a46 := Tryz.isAgg82
  z46 := Tryz.sizeOf82
  v46 := Tryz.zeroValue82 }
open Go.Lib in
/-- internal/strconv.log10Pow2: "log10Pow2(x) returns ⌊log₁₀ 2**x⌋ = ⌊x * log₁₀ 2⌋.": '(x * 78913) >> 18', at an x up to 64 (a length in bits). The world is as it was. (LAID: no walk: one application.) -/
theorem Tryz.internal_strconv_log10Pow2 (x : Nat) (h : x ≤ 64) (w : World) :
    Calls Tryz.prog 112 #[.int .i64 x] w fun e w' => e = .returned (.int .i64 (Lib.l10 x)) ∧ w' = w := Any.internal_strconv_log10Pow2 Tryz.lays317 x h w
def Tryz.lays318_ren : Go.Shelf.Ren := ⟨fun | 318 => 114 | n => n, fun | 3 => 3 | 4 => 4 | n => n, fun | n => n⟩
theorem Tryz.lays318 : Go.Proofs.Lays.n318 Tryz.prog Tryz.lays318_ren := {
  mixed := by kernel_rfl
  f318 := Tryz.func114.trans (congrArg some (by kernel_rfl))
  t3 := Tryz.underlying3
  a3 := Tryz.isAgg3
  z3 := Tryz.sizeOf3
  v3 := Tryz.zeroValue3
  t4 := Tryz.underlying4
  a4 := Tryz.isAgg4
  z4 := Tryz.sizeOf4
  v4 := Tryz.zeroValue4 }
open Go.Lib in
/-- internal/strconv.bool2: "bool2 converts b to an integer: 1 for true, 0 for false." The world is as it was. (LAID: no walk: one application.) -/
theorem Tryz.internal_strconv_bool2_int (b : Bool) (w : World) :
    Calls Tryz.prog 114 #[.bool b] w fun e w' => e = .returned (.int .i64 (if b then 1 else 0)) ∧ w' = w := Any.internal_strconv_bool2_int Tryz.lays318 b w
def Tryz.lays283_ren : Go.Shelf.Ren := ⟨fun | 283 => 106 | n => n, fun | 3 => 3 | 9 => 9 | 4 => 4 | n => n, fun | n => n⟩
theorem Tryz.lays283 : Go.Proofs.Lays.n283 Tryz.prog Tryz.lays283_ren := {
  mixed := by kernel_rfl
  f283 := Tryz.func106.trans (congrArg some (by kernel_rfl))
  t3 := Tryz.underlying3
  a3 := Tryz.isAgg3
  z3 := Tryz.sizeOf3
  v3 := Tryz.zeroValue3
  t4 := Tryz.underlying4
  a4 := Tryz.isAgg4
  z4 := Tryz.sizeOf4
  v4 := Tryz.zeroValue4
  t9 := Tryz.underlying9
  a9 := Tryz.isAgg9
  z9 := Tryz.sizeOf9
  v9 := Tryz.zeroValue9 }
open Go.Lib in
/-- internal/strconv.small: "small returns the string for an i with 0 <= i < nSmalls.": i's decimal numeral. The world is as it was. (LAID: no walk: one application.) -/
theorem Tryz.internal_strconv_small (i : Nat) (h : i < 100) (w : World) :
    Calls Tryz.prog 106 #[.int .i64 i] w fun e w' => e = .returned (.string ⟨(Lib.decDigits i).toArray⟩) ∧ w' = w := Any.internal_strconv_small Tryz.lays283 i h w
def Tryz.laysM284_ren : Go.Shelf.Ren := ⟨fun | 284 => 107 | 129 => 113 | 317 => 112 | 318 => 114 | n => n, fun | 53 => 92 | 3 => 3 | 212 => 168 | 0 => 0 | 4 => 4 | 46 => 82 | 5 => 5 | 9 => 9 | n => n, fun | 17 => 1 | n => n⟩
theorem Tryz.laysM284 : Go.Proofs.LaysM.n284 Tryz.prog Tryz.laysM284_ren := {
  mixed := by kernel_rfl
  f129 := Tryz.func113.trans (congrArg some (by kernel_rfl))
  f284 := Tryz.func107.trans (congrArg some (by kernel_rfl))
  f317 := Tryz.func112.trans (congrArg some (by kernel_rfl))
  f318 := Tryz.func114.trans (congrArg some (by kernel_rfl))
  t0 := Tryz.underlying0
  a0 := Tryz.isAgg0
  z0 := Tryz.sizeOf0
  v0 := Tryz.zeroValue0
  t3 := Tryz.underlying3
  a3 := Tryz.isAgg3
  z3 := Tryz.sizeOf3
  v3 := Tryz.zeroValue3
  t4 := Tryz.underlying4
  a4 := Tryz.isAgg4
  z4 := Tryz.sizeOf4
  v4 := Tryz.zeroValue4
  t5 := Tryz.underlying5
  a5 := Tryz.isAgg5
  z5 := Tryz.sizeOf5
  v5 := Tryz.zeroValue5
  t9 := Tryz.underlying9
  a9 := Tryz.isAgg9
  z9 := Tryz.sizeOf9
  v9 := Tryz.zeroValue9
  t46 := Tryz.underlying82
  a46 := Tryz.isAgg82
  z46 := Tryz.sizeOf82
  v46 := Tryz.zeroValue82
  t53 := Tryz.underlying92
  a53 := Tryz.isAgg92
  z53 := Tryz.sizeOf92
  v53 := Tryz.zeroValue92
  t212 := Tryz.underlying168
  a212 := Tryz.isAgg168
  z212 := Tryz.sizeOf168
  v212 := Tryz.zeroValue168
  g17 := by kernel_rfl
  i0 := by kernel_rfl
  i3 := by kernel_rfl
  i4 := by kernel_rfl
  i5 := by kernel_rfl
  i9 := by kernel_rfl
  i46 := by kernel_rfl
  i53 := by kernel_rfl
  i212 := by kernel_rfl
  m17 := by kernel_rfl }
open Go.Lib in
/-- internal/strconv.numDigits, at a d that is not 0: THE NUMBER OF d's DECIMAL DIGITS. The world is as it was. (LAID: no walk: one application.) -/
theorem Tryz.internal_strconv_numDigits (u : Nat) (h1 : 1 ≤ u) (h2 : u < 18446744073709551616) (w : World) (htab : Lib.TabIs Tryz.prog w "internal/strconv.uint64pow10" .u64 Lib.pow10Tab) :
    Calls Tryz.prog 107 #[.int .u64 u] w fun e w' => e = .returned (.int .i64 (Lib.nDigits u)) ∧ w' = w := Any.internal_strconv_numDigits Tryz.laysM284 u h1 h2 w htab
def Tryz.lays285_ren : Go.Shelf.Ren := ⟨fun | 285 => 108 | n => n, fun | 37 => 25 | 53 => 92 | 3 => 3 | 4 => 4 | 51 => 149 | 9 => 9 | 5 => 5 | 0 => 0 | n => n, fun | n => n⟩
theorem Tryz.lays285 : Go.Proofs.Lays.n285 Tryz.prog Tryz.lays285_ren := {
  mixed := by kernel_rfl
  f285 := Tryz.func108.trans (congrArg some (by kernel_rfl))
  t0 := Tryz.underlying0
  a0 := Tryz.isAgg0
  z0 := Tryz.sizeOf0
  v0 := Tryz.zeroValue0
  t3 := Tryz.underlying3
  a3 := Tryz.isAgg3
  z3 := Tryz.sizeOf3
  v3 := Tryz.zeroValue3
  t4 := Tryz.underlying4
  a4 := Tryz.isAgg4
  z4 := Tryz.sizeOf4
  v4 := Tryz.zeroValue4
  t5 := Tryz.underlying5
  a5 := Tryz.isAgg5
  z5 := Tryz.sizeOf5
  v5 := Tryz.zeroValue5
  t9 := Tryz.underlying9
  a9 := Tryz.isAgg9
  z9 := Tryz.sizeOf9
  v9 := Tryz.zeroValue9
  t37 := Tryz.underlying25
  a37 := Tryz.isAgg25
  z37 := Tryz.sizeOf25
  v37 := Tryz.zeroValue25
  t51 := Tryz.underlying149
  a51 := Tryz.isAgg149
  z51 := Tryz.sizeOf149
  v51 := Tryz.zeroValue149
  t53 := Tryz.underlying92
  a53 := Tryz.isAgg92
  z53 := Tryz.sizeOf92
  v53 := Tryz.zeroValue92 }
open Go.RowKit Go.Sort Go.Lib in
/-- internal/strconv.formatBase10: "formatBase10 formats the decimal representation of u into a. The caller is responsible for ensuring that a is big enough to hold u. If a is too big, leading zeros will be filled in as needed.": THE ROW HOLDS u's DIGITS ('FmtInv .. 0 ..': every place t holds 'dg u (len - 1 - t)'); all else is as it was but for the count of draws. (LAID: no walk: one application.) -/
theorem Tryz.internal_strconv_formatBase10 (blk off cap : Nat) (u : Nat) (d : Array UInt8) (w : World) (hH : Holds (fun (b : UInt8) => Value.int .u8 (b.toNat : Int)) w blk off d) (hu : u < 10 ^ d.size) (hu64 : u < 18446744073709551616) (hsz : d.size < 4611686018427387904) :
    Calls Tryz.prog 108 #[.slice (some ⟨blk, off, none⟩) d.size cap, .int .u64 u] w fun e w' =>
      e = .returned (.tuple #[]) ∧ ∃ (n v' : Nat) (dk : Array UInt8), w' = (putRow (fun (b : UInt8) => Value.int .u8 (b.toNat : Int)) w blk off dk).drewN n ∧ FmtInv d.size u 0 v' dk := Any.internal_strconv_formatBase10 Tryz.lays285 blk off cap u d w hH hu hu64 hsz
def Tryz.laysM246_ren : Go.Shelf.Ren := ⟨fun | 246 => 97 | 283 => 106 | 284 => 107 | 285 => 108 | 286 => 109 | 129 => 113 | 317 => 112 | 318 => 114 | 319 => 115 | 320 => 116 | 337 => 117 | 338 => 118 | n => n, fun | 2 => 2 | 3 => 3 | 9 => 9 | 4 => 4 | 171 => 158 | 0 => 0 | 53 => 92 | 37 => 25 | 5 => 5 | 173 => 161 | 212 => 168 | 51 => 149 | 20 => 20 | 213 => 169 | 46 => 82 | 232 => 173 | 233 => 174 | n => n, fun | 17 => 1 | 18 => 3 | 19 => 4 | n => n⟩
theorem Tryz.laysM246 : Go.Proofs.LaysM.n246 Tryz.prog Tryz.laysM246_ren := {
  mixed := by kernel_rfl
  f129 := Tryz.func113.trans (congrArg some (by kernel_rfl))
  f246 := Tryz.func97.trans (congrArg some (by kernel_rfl))
  f283 := Tryz.func106.trans (congrArg some (by kernel_rfl))
  f284 := Tryz.func107.trans (congrArg some (by kernel_rfl))
  f285 := Tryz.func108.trans (congrArg some (by kernel_rfl))
  f286 := Tryz.func109.trans (congrArg some (by kernel_rfl))
  f317 := Tryz.func112.trans (congrArg some (by kernel_rfl))
  f318 := Tryz.func114.trans (congrArg some (by kernel_rfl))
  f319 := Tryz.func115.trans (congrArg some (by kernel_rfl))
  f320 := Tryz.func116.trans (congrArg some (by kernel_rfl))
  f337 := Tryz.func117.trans (congrArg some (by kernel_rfl))
  f338 := Tryz.func118.trans (congrArg some (by kernel_rfl))
  t0 := Tryz.underlying0
  a0 := Tryz.isAgg0
  z0 := Tryz.sizeOf0
  v0 := Tryz.zeroValue0
  t2 := Tryz.underlying2
  a2 := Tryz.isAgg2
  z2 := Tryz.sizeOf2
  v2 := Tryz.zeroValue2
  t3 := Tryz.underlying3
  a3 := Tryz.isAgg3
  z3 := Tryz.sizeOf3
  v3 := Tryz.zeroValue3
  t4 := Tryz.underlying4
  a4 := Tryz.isAgg4
  z4 := Tryz.sizeOf4
  v4 := Tryz.zeroValue4
  t5 := Tryz.underlying5
  a5 := Tryz.isAgg5
  z5 := Tryz.sizeOf5
  v5 := Tryz.zeroValue5
  t9 := Tryz.underlying9
  a9 := Tryz.isAgg9
  z9 := Tryz.sizeOf9
  v9 := Tryz.zeroValue9
  t20 := Tryz.underlying20
  a20 := Tryz.isAgg20
  z20 := Tryz.sizeOf20
  v20 := Tryz.zeroValue20
  t37 := Tryz.underlying25
  a37 := Tryz.isAgg25
  z37 := Tryz.sizeOf25
  v37 := Tryz.zeroValue25
  t46 := Tryz.underlying82
  a46 := Tryz.isAgg82
  z46 := Tryz.sizeOf82
  v46 := Tryz.zeroValue82
  t51 := Tryz.underlying149
  a51 := Tryz.isAgg149
  z51 := Tryz.sizeOf149
  v51 := Tryz.zeroValue149
  t53 := Tryz.underlying92
  a53 := Tryz.isAgg92
  z53 := Tryz.sizeOf92
  v53 := Tryz.zeroValue92
  t171 := Tryz.underlying158
  a171 := Tryz.isAgg158
  z171 := Tryz.sizeOf158
  v171 := Tryz.zeroValue158
  t173 := Tryz.underlying161
  a173 := Tryz.isAgg161
  z173 := Tryz.sizeOf161
  v173 := Tryz.zeroValue161
  t212 := Tryz.underlying168
  a212 := Tryz.isAgg168
  z212 := Tryz.sizeOf168
  v212 := Tryz.zeroValue168
  t213 := Tryz.underlying169
  a213 := Tryz.isAgg169
  z213 := Tryz.sizeOf169
  t232 := Tryz.underlying173
  a232 := Tryz.isAgg173
  z232 := Tryz.sizeOf173
  v232 := Tryz.zeroValue173
  t233 := Tryz.underlying174
  a233 := Tryz.isAgg174
  z233 := Tryz.sizeOf174
  v233 := Tryz.zeroValue174
  g17 := by kernel_rfl
  g18 := by kernel_rfl
  g19 := by kernel_rfl
  i0 := by kernel_rfl
  i2 := by kernel_rfl
  i3 := by kernel_rfl
  i4 := by kernel_rfl
  i5 := by kernel_rfl
  i9 := by kernel_rfl
  i20 := by kernel_rfl
  i37 := by kernel_rfl
  i46 := by kernel_rfl
  i51 := by kernel_rfl
  i53 := by kernel_rfl
  i171 := by kernel_rfl
  i173 := by kernel_rfl
  i212 := by kernel_rfl
  i232 := by kernel_rfl
  i233 := by kernel_rfl
  m17 := by kernel_rfl
  m18 := by kernel_rfl
  m19 := by kernel_rfl }
open Go.RowKit Go.Sort Go.Lib in
/-- internal/strconv.FormatInt: "FormatInt returns the string representation of i in the given base": AT BASE 10: i's decimal numeral, for every int64. The world behind the call: the world before it, new blocks behind the heap, draws. (LAID: no walk: one application.) -/
theorem Tryz.internal_strconv_FormatInt_10 (n : Int) (h0 : -9223372036854775808 ≤ n) (h1 : n ≤ 9223372036854775807) (w : World) (htab : Lib.TabIs Tryz.prog w "internal/strconv.uint64pow10" .u64 Lib.pow10Tab) :
    Calls Tryz.prog 97 #[.int .i64 n, .int .i64 10] w fun e w' => e = .returned (.string ⟨(Lib.itoa n).toArray⟩) ∧ ∃ k os, w' = grow (w.drewN k) os := Any.internal_strconv_FormatInt_10 Tryz.laysM246 n h0 h1 w htab
def Tryz.lays246_ren : Go.Shelf.Ren := ⟨fun | 246 => 97 | 283 => 106 | 284 => 107 | 285 => 108 | 286 => 109 | 129 => 113 | 317 => 112 | 318 => 114 | 319 => 115 | 320 => 116 | 337 => 117 | 338 => 118 | n => n, fun | 2 => 2 | 3 => 3 | 9 => 9 | 4 => 4 | 171 => 158 | 0 => 0 | 53 => 92 | 37 => 25 | 5 => 5 | 173 => 161 | 212 => 168 | 51 => 149 | 20 => 20 | 213 => 169 | 46 => 82 | 232 => 173 | 233 => 174 | n => n, fun | 17 => 1 | 18 => 3 | 19 => 4 | n => n⟩
theorem Tryz.lays246 : Go.Proofs.Lays.n246 Tryz.prog Tryz.lays246_ren := {
  mixed := by kernel_rfl
  f129 := Tryz.func113.trans (congrArg some (by kernel_rfl))
  f246 := Tryz.func97.trans (congrArg some (by kernel_rfl))
  f283 := Tryz.func106.trans (congrArg some (by kernel_rfl))
  f284 := Tryz.func107.trans (congrArg some (by kernel_rfl))
  f285 := Tryz.func108.trans (congrArg some (by kernel_rfl))
  f286 := Tryz.func109.trans (congrArg some (by kernel_rfl))
  f317 := Tryz.func112.trans (congrArg some (by kernel_rfl))
  f318 := Tryz.func114.trans (congrArg some (by kernel_rfl))
  f319 := Tryz.func115.trans (congrArg some (by kernel_rfl))
  f320 := Tryz.func116.trans (congrArg some (by kernel_rfl))
  f337 := Tryz.func117.trans (congrArg some (by kernel_rfl))
  f338 := Tryz.func118.trans (congrArg some (by kernel_rfl))
  t0 := Tryz.underlying0
  a0 := Tryz.isAgg0
  z0 := Tryz.sizeOf0
  v0 := Tryz.zeroValue0
  t2 := Tryz.underlying2
  a2 := Tryz.isAgg2
  z2 := Tryz.sizeOf2
  v2 := Tryz.zeroValue2
  t3 := Tryz.underlying3
  a3 := Tryz.isAgg3
  z3 := Tryz.sizeOf3
  v3 := Tryz.zeroValue3
  t4 := Tryz.underlying4
  a4 := Tryz.isAgg4
  z4 := Tryz.sizeOf4
  v4 := Tryz.zeroValue4
  t5 := Tryz.underlying5
  a5 := Tryz.isAgg5
  z5 := Tryz.sizeOf5
  v5 := Tryz.zeroValue5
  t9 := Tryz.underlying9
  a9 := Tryz.isAgg9
  z9 := Tryz.sizeOf9
  v9 := Tryz.zeroValue9
  t20 := Tryz.underlying20
  a20 := Tryz.isAgg20
  z20 := Tryz.sizeOf20
  v20 := Tryz.zeroValue20
  t37 := Tryz.underlying25
  a37 := Tryz.isAgg25
  z37 := Tryz.sizeOf25
  v37 := Tryz.zeroValue25
  t46 := Tryz.underlying82
  a46 := Tryz.isAgg82
  z46 := Tryz.sizeOf82
  v46 := Tryz.zeroValue82
  t51 := Tryz.underlying149
  a51 := Tryz.isAgg149
  z51 := Tryz.sizeOf149
  v51 := Tryz.zeroValue149
  t53 := Tryz.underlying92
  a53 := Tryz.isAgg92
  z53 := Tryz.sizeOf92
  v53 := Tryz.zeroValue92
  t171 := Tryz.underlying158
  a171 := Tryz.isAgg158
  z171 := Tryz.sizeOf158
  v171 := Tryz.zeroValue158
  t173 := Tryz.underlying161
  a173 := Tryz.isAgg161
  z173 := Tryz.sizeOf161
  v173 := Tryz.zeroValue161
  t212 := Tryz.underlying168
  a212 := Tryz.isAgg168
  z212 := Tryz.sizeOf168
  v212 := Tryz.zeroValue168
  t213 := Tryz.underlying169
  a213 := Tryz.isAgg169
  z213 := Tryz.sizeOf169
  t232 := Tryz.underlying173
  a232 := Tryz.isAgg173
  z232 := Tryz.sizeOf173
  v232 := Tryz.zeroValue173
  t233 := Tryz.underlying174
  a233 := Tryz.isAgg174
  z233 := Tryz.sizeOf174
  v233 := Tryz.zeroValue174
  g17 := by kernel_rfl
  g18 := by kernel_rfl
  g19 := by kernel_rfl }
open Go.RowKit Go.Sort Go.Lib in
/-- THE ROAD WITHOUT THE TABLE: 0 <= i < 100: two constants are read, nothing is laid: no premise on the world, and the world is as it was. (LAID: no walk: one application.) -/
theorem Tryz.internal_strconv_FormatInt_10_small (i : Nat) (hi : i < 100) (w : World) :
    Calls Tryz.prog 97 #[.int .i64 i, .int .i64 10] w fun e w' => e = .returned (.string ⟨(Lib.decDigits i).toArray⟩) ∧ w' = w := Any.internal_strconv_FormatInt_10_small Tryz.lays246 i hi w
def Tryz.laysM243_ren : Go.Shelf.Ren := ⟨fun | 243 => 81 | 246 => 97 | 283 => 106 | 284 => 107 | 285 => 108 | 286 => 109 | 129 => 113 | 317 => 112 | 318 => 114 | 319 => 115 | 320 => 116 | 337 => 117 | 338 => 118 | n => n, fun | 3 => 3 | 9 => 9 | 2 => 2 | 4 => 4 | 171 => 158 | 0 => 0 | 53 => 92 | 37 => 25 | 5 => 5 | 173 => 161 | 212 => 168 | 51 => 149 | 20 => 20 | 213 => 169 | 46 => 82 | 232 => 173 | 233 => 174 | n => n, fun | 17 => 1 | 18 => 3 | 19 => 4 | n => n⟩
theorem Tryz.laysM243 : Go.Proofs.LaysM.n243 Tryz.prog Tryz.laysM243_ren := {
  mixed := by kernel_rfl
  f129 := Tryz.func113.trans (congrArg some (by kernel_rfl))
  f243 := Tryz.func81.trans (congrArg some (by kernel_rfl))
  f246 := Tryz.func97.trans (congrArg some (by kernel_rfl))
  f283 := Tryz.func106.trans (congrArg some (by kernel_rfl))
  f284 := Tryz.func107.trans (congrArg some (by kernel_rfl))
  f285 := Tryz.func108.trans (congrArg some (by kernel_rfl))
  f286 := Tryz.func109.trans (congrArg some (by kernel_rfl))
  f317 := Tryz.func112.trans (congrArg some (by kernel_rfl))
  f318 := Tryz.func114.trans (congrArg some (by kernel_rfl))
  f319 := Tryz.func115.trans (congrArg some (by kernel_rfl))
  f320 := Tryz.func116.trans (congrArg some (by kernel_rfl))
  f337 := Tryz.func117.trans (congrArg some (by kernel_rfl))
  f338 := Tryz.func118.trans (congrArg some (by kernel_rfl))
  t0 := Tryz.underlying0
  a0 := Tryz.isAgg0
  z0 := Tryz.sizeOf0
  v0 := Tryz.zeroValue0
  t2 := Tryz.underlying2
  a2 := Tryz.isAgg2
  z2 := Tryz.sizeOf2
  v2 := Tryz.zeroValue2
  t3 := Tryz.underlying3
  a3 := Tryz.isAgg3
  z3 := Tryz.sizeOf3
  v3 := Tryz.zeroValue3
  t4 := Tryz.underlying4
  a4 := Tryz.isAgg4
  z4 := Tryz.sizeOf4
  v4 := Tryz.zeroValue4
  t5 := Tryz.underlying5
  a5 := Tryz.isAgg5
  z5 := Tryz.sizeOf5
  v5 := Tryz.zeroValue5
  t9 := Tryz.underlying9
  a9 := Tryz.isAgg9
  z9 := Tryz.sizeOf9
  v9 := Tryz.zeroValue9
  t20 := Tryz.underlying20
  a20 := Tryz.isAgg20
  z20 := Tryz.sizeOf20
  v20 := Tryz.zeroValue20
  t37 := Tryz.underlying25
  a37 := Tryz.isAgg25
  z37 := Tryz.sizeOf25
  v37 := Tryz.zeroValue25
  t46 := Tryz.underlying82
  a46 := Tryz.isAgg82
  z46 := Tryz.sizeOf82
  v46 := Tryz.zeroValue82
  t51 := Tryz.underlying149
  a51 := Tryz.isAgg149
  z51 := Tryz.sizeOf149
  v51 := Tryz.zeroValue149
  t53 := Tryz.underlying92
  a53 := Tryz.isAgg92
  z53 := Tryz.sizeOf92
  v53 := Tryz.zeroValue92
  t171 := Tryz.underlying158
  a171 := Tryz.isAgg158
  z171 := Tryz.sizeOf158
  v171 := Tryz.zeroValue158
  t173 := Tryz.underlying161
  a173 := Tryz.isAgg161
  z173 := Tryz.sizeOf161
  v173 := Tryz.zeroValue161
  t212 := Tryz.underlying168
  a212 := Tryz.isAgg168
  z212 := Tryz.sizeOf168
  v212 := Tryz.zeroValue168
  t213 := Tryz.underlying169
  a213 := Tryz.isAgg169
  z213 := Tryz.sizeOf169
  t232 := Tryz.underlying173
  a232 := Tryz.isAgg173
  z232 := Tryz.sizeOf173
  v232 := Tryz.zeroValue173
  t233 := Tryz.underlying174
  a233 := Tryz.isAgg174
  z233 := Tryz.sizeOf174
  v233 := Tryz.zeroValue174
  g17 := by kernel_rfl
  g18 := by kernel_rfl
  g19 := by kernel_rfl
  i0 := by kernel_rfl
  i2 := by kernel_rfl
  i3 := by kernel_rfl
  i4 := by kernel_rfl
  i5 := by kernel_rfl
  i9 := by kernel_rfl
  i20 := by kernel_rfl
  i37 := by kernel_rfl
  i46 := by kernel_rfl
  i51 := by kernel_rfl
  i53 := by kernel_rfl
  i171 := by kernel_rfl
  i173 := by kernel_rfl
  i212 := by kernel_rfl
  i232 := by kernel_rfl
  i233 := by kernel_rfl
  m17 := by kernel_rfl
  m18 := by kernel_rfl
  m19 := by kernel_rfl }
open Go.RowKit Go.Sort Go.Lib in
/-- internal/strconv.Itoa: "Itoa is equivalent to FormatInt(int64(i), 10).": i's decimal numeral, for every int. (LAID: no walk: one application.) -/
theorem Tryz.internal_strconv_Itoa (n : Int) (h0 : -9223372036854775808 ≤ n) (h1 : n ≤ 9223372036854775807) (w : World) (htab : Lib.TabIs Tryz.prog w "internal/strconv.uint64pow10" .u64 Lib.pow10Tab) :
    Calls Tryz.prog 81 #[.int .i64 n] w fun e w' => e = .returned (.string ⟨(Lib.itoa n).toArray⟩) ∧ ∃ k os, w' = grow (w.drewN k) os := Any.internal_strconv_Itoa Tryz.laysM243 n h0 h1 w htab
def Tryz.lays243_ren : Go.Shelf.Ren := ⟨fun | 243 => 81 | 246 => 97 | 283 => 106 | 284 => 107 | 285 => 108 | 286 => 109 | 129 => 113 | 317 => 112 | 318 => 114 | 319 => 115 | 320 => 116 | 337 => 117 | 338 => 118 | n => n, fun | 3 => 3 | 9 => 9 | 2 => 2 | 4 => 4 | 171 => 158 | 0 => 0 | 53 => 92 | 37 => 25 | 5 => 5 | 173 => 161 | 212 => 168 | 51 => 149 | 20 => 20 | 213 => 169 | 46 => 82 | 232 => 173 | 233 => 174 | n => n, fun | 17 => 1 | 18 => 3 | 19 => 4 | n => n⟩
theorem Tryz.lays243 : Go.Proofs.Lays.n243 Tryz.prog Tryz.lays243_ren := {
  mixed := by kernel_rfl
  f129 := Tryz.func113.trans (congrArg some (by kernel_rfl))
  f243 := Tryz.func81.trans (congrArg some (by kernel_rfl))
  f246 := Tryz.func97.trans (congrArg some (by kernel_rfl))
  f283 := Tryz.func106.trans (congrArg some (by kernel_rfl))
  f284 := Tryz.func107.trans (congrArg some (by kernel_rfl))
  f285 := Tryz.func108.trans (congrArg some (by kernel_rfl))
  f286 := Tryz.func109.trans (congrArg some (by kernel_rfl))
  f317 := Tryz.func112.trans (congrArg some (by kernel_rfl))
  f318 := Tryz.func114.trans (congrArg some (by kernel_rfl))
  f319 := Tryz.func115.trans (congrArg some (by kernel_rfl))
  f320 := Tryz.func116.trans (congrArg some (by kernel_rfl))
  f337 := Tryz.func117.trans (congrArg some (by kernel_rfl))
  f338 := Tryz.func118.trans (congrArg some (by kernel_rfl))
  t0 := Tryz.underlying0
  a0 := Tryz.isAgg0
  z0 := Tryz.sizeOf0
  v0 := Tryz.zeroValue0
  t2 := Tryz.underlying2
  a2 := Tryz.isAgg2
  z2 := Tryz.sizeOf2
  v2 := Tryz.zeroValue2
  t3 := Tryz.underlying3
  a3 := Tryz.isAgg3
  z3 := Tryz.sizeOf3
  v3 := Tryz.zeroValue3
  t4 := Tryz.underlying4
  a4 := Tryz.isAgg4
  z4 := Tryz.sizeOf4
  v4 := Tryz.zeroValue4
  t5 := Tryz.underlying5
  a5 := Tryz.isAgg5
  z5 := Tryz.sizeOf5
  v5 := Tryz.zeroValue5
  t9 := Tryz.underlying9
  a9 := Tryz.isAgg9
  z9 := Tryz.sizeOf9
  v9 := Tryz.zeroValue9
  t20 := Tryz.underlying20
  a20 := Tryz.isAgg20
  z20 := Tryz.sizeOf20
  v20 := Tryz.zeroValue20
  t37 := Tryz.underlying25
  a37 := Tryz.isAgg25
  z37 := Tryz.sizeOf25
  v37 := Tryz.zeroValue25
  t46 := Tryz.underlying82
  a46 := Tryz.isAgg82
  z46 := Tryz.sizeOf82
  v46 := Tryz.zeroValue82
  t51 := Tryz.underlying149
  a51 := Tryz.isAgg149
  z51 := Tryz.sizeOf149
  v51 := Tryz.zeroValue149
  t53 := Tryz.underlying92
  a53 := Tryz.isAgg92
  z53 := Tryz.sizeOf92
  v53 := Tryz.zeroValue92
  t171 := Tryz.underlying158
  a171 := Tryz.isAgg158
  z171 := Tryz.sizeOf158
  v171 := Tryz.zeroValue158
  t173 := Tryz.underlying161
  a173 := Tryz.isAgg161
  z173 := Tryz.sizeOf161
  v173 := Tryz.zeroValue161
  t212 := Tryz.underlying168
  a212 := Tryz.isAgg168
  z212 := Tryz.sizeOf168
  v212 := Tryz.zeroValue168
  t213 := Tryz.underlying169
  a213 := Tryz.isAgg169
  z213 := Tryz.sizeOf169
  t232 := Tryz.underlying173
  a232 := Tryz.isAgg173
  z232 := Tryz.sizeOf173
  v232 := Tryz.zeroValue173
  t233 := Tryz.underlying174
  a233 := Tryz.isAgg174
  z233 := Tryz.sizeOf174
  v233 := Tryz.zeroValue174
  g17 := by kernel_rfl
  g18 := by kernel_rfl
  g19 := by kernel_rfl }
open Go.RowKit Go.Sort Go.Lib in
/-- THE ROAD WITHOUT THE TABLE: 0 <= i < 100. (LAID: no walk: one application.) -/
theorem Tryz.internal_strconv_Itoa_small (i : Nat) (hi : i < 100) (w : World) :
    Calls Tryz.prog 81 #[.int .i64 i] w fun e w' => e = .returned (.string ⟨(Lib.decDigits i).toArray⟩) ∧ w' = w := Any.internal_strconv_Itoa_small Tryz.lays243 i hi w
def Tryz.laysM171_ren : Go.Shelf.Ren := ⟨fun | 171 => 63 | 243 => 81 | 246 => 97 | 283 => 106 | 284 => 107 | 285 => 108 | 286 => 109 | 129 => 113 | 317 => 112 | 318 => 114 | 319 => 115 | 320 => 116 | 337 => 117 | 338 => 118 | n => n, fun | 3 => 3 | 9 => 9 | 2 => 2 | 4 => 4 | 171 => 158 | 0 => 0 | 53 => 92 | 37 => 25 | 5 => 5 | 173 => 161 | 212 => 168 | 51 => 149 | 20 => 20 | 213 => 169 | 46 => 82 | 232 => 173 | 233 => 174 | n => n, fun | 17 => 1 | 18 => 3 | 19 => 4 | n => n⟩
theorem Tryz.laysM171 : Go.Proofs.LaysM.n171 Tryz.prog Tryz.laysM171_ren := {
  mixed := by kernel_rfl
  f129 := Tryz.func113.trans (congrArg some (by kernel_rfl))
  f171 := Tryz.func63.trans (congrArg some (by kernel_rfl))
  f243 := Tryz.func81.trans (congrArg some (by kernel_rfl))
  f246 := Tryz.func97.trans (congrArg some (by kernel_rfl))
  f283 := Tryz.func106.trans (congrArg some (by kernel_rfl))
  f284 := Tryz.func107.trans (congrArg some (by kernel_rfl))
  f285 := Tryz.func108.trans (congrArg some (by kernel_rfl))
  f286 := Tryz.func109.trans (congrArg some (by kernel_rfl))
  f317 := Tryz.func112.trans (congrArg some (by kernel_rfl))
  f318 := Tryz.func114.trans (congrArg some (by kernel_rfl))
  f319 := Tryz.func115.trans (congrArg some (by kernel_rfl))
  f320 := Tryz.func116.trans (congrArg some (by kernel_rfl))
  f337 := Tryz.func117.trans (congrArg some (by kernel_rfl))
  f338 := Tryz.func118.trans (congrArg some (by kernel_rfl))
  t0 := Tryz.underlying0
  a0 := Tryz.isAgg0
  z0 := Tryz.sizeOf0
  v0 := Tryz.zeroValue0
  t2 := Tryz.underlying2
  a2 := Tryz.isAgg2
  z2 := Tryz.sizeOf2
  v2 := Tryz.zeroValue2
  t3 := Tryz.underlying3
  a3 := Tryz.isAgg3
  z3 := Tryz.sizeOf3
  v3 := Tryz.zeroValue3
  t4 := Tryz.underlying4
  a4 := Tryz.isAgg4
  z4 := Tryz.sizeOf4
  v4 := Tryz.zeroValue4
  t5 := Tryz.underlying5
  a5 := Tryz.isAgg5
  z5 := Tryz.sizeOf5
  v5 := Tryz.zeroValue5
  t9 := Tryz.underlying9
  a9 := Tryz.isAgg9
  z9 := Tryz.sizeOf9
  v9 := Tryz.zeroValue9
  t20 := Tryz.underlying20
  a20 := Tryz.isAgg20
  z20 := Tryz.sizeOf20
  v20 := Tryz.zeroValue20
  t37 := Tryz.underlying25
  a37 := Tryz.isAgg25
  z37 := Tryz.sizeOf25
  v37 := Tryz.zeroValue25
  t46 := Tryz.underlying82
  a46 := Tryz.isAgg82
  z46 := Tryz.sizeOf82
  v46 := Tryz.zeroValue82
  t51 := Tryz.underlying149
  a51 := Tryz.isAgg149
  z51 := Tryz.sizeOf149
  v51 := Tryz.zeroValue149
  t53 := Tryz.underlying92
  a53 := Tryz.isAgg92
  z53 := Tryz.sizeOf92
  v53 := Tryz.zeroValue92
  t171 := Tryz.underlying158
  a171 := Tryz.isAgg158
  z171 := Tryz.sizeOf158
  v171 := Tryz.zeroValue158
  t173 := Tryz.underlying161
  a173 := Tryz.isAgg161
  z173 := Tryz.sizeOf161
  v173 := Tryz.zeroValue161
  t212 := Tryz.underlying168
  a212 := Tryz.isAgg168
  z212 := Tryz.sizeOf168
  v212 := Tryz.zeroValue168
  t213 := Tryz.underlying169
  a213 := Tryz.isAgg169
  z213 := Tryz.sizeOf169
  t232 := Tryz.underlying173
  a232 := Tryz.isAgg173
  z232 := Tryz.sizeOf173
  v232 := Tryz.zeroValue173
  t233 := Tryz.underlying174
  a233 := Tryz.isAgg174
  z233 := Tryz.sizeOf174
  v233 := Tryz.zeroValue174
  g17 := by kernel_rfl
  g18 := by kernel_rfl
  g19 := by kernel_rfl
  i0 := by kernel_rfl
  i2 := by kernel_rfl
  i3 := by kernel_rfl
  i4 := by kernel_rfl
  i5 := by kernel_rfl
  i9 := by kernel_rfl
  i20 := by kernel_rfl
  i37 := by kernel_rfl
  i46 := by kernel_rfl
  i51 := by kernel_rfl
  i53 := by kernel_rfl
  i171 := by kernel_rfl
  i173 := by kernel_rfl
  i212 := by kernel_rfl
  i232 := by kernel_rfl
  i233 := by kernel_rfl
  m17 := by kernel_rfl
  m18 := by kernel_rfl
  m19 := by kernel_rfl }
open Go.RowKit Go.Sort Go.Lib in
/-- strconv.Itoa: "Itoa is equivalent to FormatInt(int64(i), 10).": i's DECIMAL NUMERAL ('Lib.itoa': a '-' where i is negative, then the digits), FOR EVERY int. The world behind the call: the world before it, new blocks behind the heap (the library's 'var a [24]byte'), draws. (LAID: no walk: one application.) -/
theorem Tryz.strconv_Itoa (n : Int) (h0 : -9223372036854775808 ≤ n) (h1 : n ≤ 9223372036854775807) (w : World) (htab : Lib.TabIs Tryz.prog w "internal/strconv.uint64pow10" .u64 Lib.pow10Tab) :
    Calls Tryz.prog 63 #[.int .i64 n] w fun e w' => e = .returned (.string ⟨(Lib.itoa n).toArray⟩) ∧ ∃ k os, w' = grow (w.drewN k) os := Any.strconv_Itoa Tryz.laysM171 n h0 h1 w htab
def Tryz.lays171_ren : Go.Shelf.Ren := ⟨fun | 171 => 63 | 243 => 81 | 246 => 97 | 283 => 106 | 284 => 107 | 285 => 108 | 286 => 109 | 129 => 113 | 317 => 112 | 318 => 114 | 319 => 115 | 320 => 116 | 337 => 117 | 338 => 118 | n => n, fun | 3 => 3 | 9 => 9 | 2 => 2 | 4 => 4 | 171 => 158 | 0 => 0 | 53 => 92 | 37 => 25 | 5 => 5 | 173 => 161 | 212 => 168 | 51 => 149 | 20 => 20 | 213 => 169 | 46 => 82 | 232 => 173 | 233 => 174 | n => n, fun | 17 => 1 | 18 => 3 | 19 => 4 | n => n⟩
theorem Tryz.lays171 : Go.Proofs.Lays.n171 Tryz.prog Tryz.lays171_ren := {
  mixed := by kernel_rfl
  f129 := Tryz.func113.trans (congrArg some (by kernel_rfl))
  f171 := Tryz.func63.trans (congrArg some (by kernel_rfl))
  f243 := Tryz.func81.trans (congrArg some (by kernel_rfl))
  f246 := Tryz.func97.trans (congrArg some (by kernel_rfl))
  f283 := Tryz.func106.trans (congrArg some (by kernel_rfl))
  f284 := Tryz.func107.trans (congrArg some (by kernel_rfl))
  f285 := Tryz.func108.trans (congrArg some (by kernel_rfl))
  f286 := Tryz.func109.trans (congrArg some (by kernel_rfl))
  f317 := Tryz.func112.trans (congrArg some (by kernel_rfl))
  f318 := Tryz.func114.trans (congrArg some (by kernel_rfl))
  f319 := Tryz.func115.trans (congrArg some (by kernel_rfl))
  f320 := Tryz.func116.trans (congrArg some (by kernel_rfl))
  f337 := Tryz.func117.trans (congrArg some (by kernel_rfl))
  f338 := Tryz.func118.trans (congrArg some (by kernel_rfl))
  t0 := Tryz.underlying0
  a0 := Tryz.isAgg0
  z0 := Tryz.sizeOf0
  v0 := Tryz.zeroValue0
  t2 := Tryz.underlying2
  a2 := Tryz.isAgg2
  z2 := Tryz.sizeOf2
  v2 := Tryz.zeroValue2
  t3 := Tryz.underlying3
  a3 := Tryz.isAgg3
  z3 := Tryz.sizeOf3
  v3 := Tryz.zeroValue3
  t4 := Tryz.underlying4
  a4 := Tryz.isAgg4
  z4 := Tryz.sizeOf4
  v4 := Tryz.zeroValue4
  t5 := Tryz.underlying5
  a5 := Tryz.isAgg5
  z5 := Tryz.sizeOf5
  v5 := Tryz.zeroValue5
  t9 := Tryz.underlying9
  a9 := Tryz.isAgg9
  z9 := Tryz.sizeOf9
  v9 := Tryz.zeroValue9
  t20 := Tryz.underlying20
  a20 := Tryz.isAgg20
  z20 := Tryz.sizeOf20
  v20 := Tryz.zeroValue20
  t37 := Tryz.underlying25
  a37 := Tryz.isAgg25
  z37 := Tryz.sizeOf25
  v37 := Tryz.zeroValue25
  t46 := Tryz.underlying82
  a46 := Tryz.isAgg82
  z46 := Tryz.sizeOf82
  v46 := Tryz.zeroValue82
  t51 := Tryz.underlying149
  a51 := Tryz.isAgg149
  z51 := Tryz.sizeOf149
  v51 := Tryz.zeroValue149
  t53 := Tryz.underlying92
  a53 := Tryz.isAgg92
  z53 := Tryz.sizeOf92
  v53 := Tryz.zeroValue92
  t171 := Tryz.underlying158
  a171 := Tryz.isAgg158
  z171 := Tryz.sizeOf158
  v171 := Tryz.zeroValue158
  t173 := Tryz.underlying161
  a173 := Tryz.isAgg161
  z173 := Tryz.sizeOf161
  v173 := Tryz.zeroValue161
  t212 := Tryz.underlying168
  a212 := Tryz.isAgg168
  z212 := Tryz.sizeOf168
  v212 := Tryz.zeroValue168
  t213 := Tryz.underlying169
  a213 := Tryz.isAgg169
  z213 := Tryz.sizeOf169
  t232 := Tryz.underlying173
  a232 := Tryz.isAgg173
  z232 := Tryz.sizeOf173
  v232 := Tryz.zeroValue173
  t233 := Tryz.underlying174
  a233 := Tryz.isAgg174
  z233 := Tryz.sizeOf174
  v233 := Tryz.zeroValue174
  g17 := by kernel_rfl
  g18 := by kernel_rfl
  g19 := by kernel_rfl }
open Go.RowKit Go.Sort Go.Lib in
/-- THE ROAD WITHOUT THE TABLE: 0 <= i < 100: NO PREMISE ON THE WORLD, AND THE WORLD IS AS IT WAS: a row that keeps its argument in that range need list no table ('laid = []'). (LAID: no walk: one application.) -/
theorem Tryz.strconv_Itoa_small (i : Nat) (hi : i < 100) (w : World) :
    Calls Tryz.prog 63 #[.int .i64 i] w fun e w' => e = .returned (.string ⟨(Lib.decDigits i).toArray⟩) ∧ w' = w := Any.strconv_Itoa_small Tryz.lays171 i hi w
def Tryz.lays206_ren : Go.Shelf.Ren := ⟨fun | 206 => 100 | n => n, fun | 9 => 9 | 4 => 4 | 3 => 3 | n => n, fun | n => n⟩
theorem Tryz.lays206 : Go.Proofs.Lays.n206 Tryz.prog Tryz.lays206_ren := {
  mixed := by kernel_rfl
  f206 := Tryz.func100.trans (congrArg some (by kernel_rfl))
  t3 := Tryz.underlying3
  a3 := Tryz.isAgg3
  z3 := Tryz.sizeOf3
  v3 := Tryz.zeroValue3
  t4 := Tryz.underlying4
  a4 := Tryz.isAgg4
  z4 := Tryz.sizeOf4
  v4 := Tryz.zeroValue4
  t9 := Tryz.underlying9
  a9 := Tryz.isAgg9
  z9 := Tryz.sizeOf9
  v9 := Tryz.zeroValue9 }
open Go.RowKit Go.Lib in
/-- internal/stringslite.HasPrefix (what strings.HasPrefix calls). (LAID: no walk: one application.) -/
theorem Tryz.stringslite_HasPrefix (s p : ByteArray) (w : World) :
    Calls Tryz.prog 100 #[.string s, .string p] w fun e w' => e = .returned (.bool (Lib.hasPrefix s.data.toList p.data.toList)) ∧ w' = w := Any.stringslite_HasPrefix Tryz.lays206 s p w
def Tryz.lays99_ren : Go.Shelf.Ren := ⟨fun | 99 => 83 | 206 => 100 | n => n, fun | 9 => 9 | 4 => 4 | 3 => 3 | n => n, fun | n => n⟩
theorem Tryz.lays99 : Go.Proofs.Lays.n99 Tryz.prog Tryz.lays99_ren := {
  mixed := by kernel_rfl
  f99 := Tryz.func83.trans (congrArg some (by kernel_rfl))
  f206 := Tryz.func100.trans (congrArg some (by kernel_rfl))
  t3 := Tryz.underlying3
  a3 := Tryz.isAgg3
  z3 := Tryz.sizeOf3
  v3 := Tryz.zeroValue3
  t4 := Tryz.underlying4
  a4 := Tryz.isAgg4
  z4 := Tryz.sizeOf4
  v4 := Tryz.zeroValue4
  t9 := Tryz.underlying9
  a9 := Tryz.isAgg9
  z9 := Tryz.sizeOf9
  v9 := Tryz.zeroValue9 }
open Go.RowKit Go.Lib in
/-- strings.HasPrefix: "HasPrefix reports whether the string s begins with prefix.": IT RETURNS 'Lib.hasPrefix s prefix'; the world is as it was. (LAID: no walk: one application.) -/
theorem Tryz.strings_HasPrefix (s p : ByteArray) (w : World) :
    Calls Tryz.prog 83 #[.string s, .string p] w fun e w' => e = .returned (.bool (Lib.hasPrefix s.data.toList p.data.toList)) ∧ w' = w := Any.strings_HasPrefix Tryz.lays99 s p w
def Tryz.lays264_ren : Go.Shelf.Ren := ⟨fun | 264 => 99 | n => n, fun | 53 => 92 | 46 => 82 | n => n, fun | n => n⟩
theorem Tryz.lays264 : Go.Proofs.Lays.n264 Tryz.prog Tryz.lays264_ren := {
  mixed := by kernel_rfl
  f264 := Tryz.func99.trans (congrArg some (by kernel_rfl))
  t46 := Tryz.underlying82
  a46 := Tryz.isAgg82
  z46 := Tryz.sizeOf82
  v46 := Tryz.zeroValue82
  t53 := Tryz.underlying92
  a53 := Tryz.isAgg92
  z53 := Tryz.sizeOf92
  v53 := Tryz.zeroValue92 }
open Go.RowKit Go.Lib in
theorem Tryz.bits_Mul64 (x y : Nat) (hx : x < 18446744073709551616) (hy : y < 18446744073709551616) (w : World) :
    Calls Tryz.prog 99 #[.int .u64 x, .int .u64 y] w fun e w' => e = .returned (.tuple #[.int .u64 ((x * y / 18446744073709551616 : Nat) : Int), .int .u64 ((x * y % 18446744073709551616 : Nat) : Int)]) ∧ w' = w := Any.bits_Mul64 Tryz.lays264 x y hx hy w
def Tryz.lays212_ren : Go.Shelf.Ren := ⟨fun | 212 => 82 | 263 => 98 | 264 => 99 | n => n, fun | 46 => 82 | 51 => 149 | 146 => 150 | 53 => 92 | 148 => 152 | n => n, fun | n => n⟩
theorem Tryz.lays212 : Go.Proofs.Lays.n212 Tryz.prog Tryz.lays212_ren := {
  mixed := by kernel_rfl
  f212 := Tryz.func82.trans (congrArg some (by kernel_rfl))
  f263 := Tryz.func98.trans (congrArg some (by kernel_rfl))
  f264 := Tryz.func99.trans (congrArg some (by kernel_rfl))
  t46 := Tryz.underlying82
  a46 := Tryz.isAgg82
  z46 := Tryz.sizeOf82
  v46 := Tryz.zeroValue82
  t51 := Tryz.underlying149
  a51 := Tryz.isAgg149
  z51 := Tryz.sizeOf149
  v51 := Tryz.zeroValue149
  t53 := Tryz.underlying92
  a53 := Tryz.isAgg92
  z53 := Tryz.sizeOf92
  v53 := Tryz.zeroValue92
  t146 := Tryz.underlying150
  a146 := Tryz.isAgg150
  z146 := Tryz.sizeOf150
  v146 := Tryz.zeroValue150
  t148 := Tryz.underlying152
  a148 := Tryz.isAgg152
  z148 := Tryz.sizeOf152
  v148 := Tryz.zeroValue152 }
open Go.RowKit Go.Lib in
/-- math/bits.Mul: "Mul returns the full-width product of x and y": on a machine of 64 bits: Mul64's. (LAID: no walk: one application.) -/
theorem Tryz.bits_Mul (x y : Nat) (hx : x < 18446744073709551616) (hy : y < 18446744073709551616) (w : World) :
    Calls Tryz.prog 82 #[.int .u64 x, .int .u64 y] w fun e w' => e = .returned (.tuple #[.int .u64 ((x * y / 18446744073709551616 : Nat) : Int), .int .u64 ((x * y % 18446744073709551616 : Nat) : Int)]) ∧ w' = w := Any.bits_Mul Tryz.lays212 x y hx hy w
def Tryz.lays105_ren : Go.Shelf.Ren := ⟨fun | 105 => 64 | 212 => 82 | 99 => 83 | 165 => 84 | 166 => 85 | 170 => 86 | 169 => 87 | 263 => 98 | 264 => 99 | 206 => 100 | 240 => 101 | 241 => 102 | 276 => 110 | 277 => 111 | n => n, fun | 9 => 9 | 3 => 3 | 4 => 4 | 20 => 20 | 0 => 0 | 46 => 82 | 109 => 131 | 5 => 5 | 72 => 136 | 76 => 140 | 51 => 149 | 146 => 150 | 53 => 92 | 148 => 152 | 70 => 134 | 37 => 25 | 75 => 139 | 127 => 154 | 164 => 163 | 80 => 143 | n => n, fun | n => n⟩
theorem Tryz.lays105 : Go.Proofs.Lays.n105 Tryz.prog Tryz.lays105_ren := {
  mixed := by kernel_rfl
  f99 := Tryz.func83.trans (congrArg some (by kernel_rfl))
  f105 := Tryz.func64.trans (congrArg some (by kernel_rfl))
  f165 := Tryz.func84.trans (congrArg some (by kernel_rfl))
  f166 := Tryz.func85.trans (congrArg some (by kernel_rfl))
  f169 := Tryz.func87.trans (congrArg some (by kernel_rfl))
  f170 := Tryz.func86.trans (congrArg some (by kernel_rfl))
  f206 := Tryz.func100.trans (congrArg some (by kernel_rfl))
  f212 := Tryz.func82.trans (congrArg some (by kernel_rfl))
  f240 := Tryz.func101.trans (congrArg some (by kernel_rfl))
  f241 := Tryz.func102.trans (congrArg some (by kernel_rfl))
  f263 := Tryz.func98.trans (congrArg some (by kernel_rfl))
  f264 := Tryz.func99.trans (congrArg some (by kernel_rfl))
  f276 := Tryz.func110.trans (congrArg some (by kernel_rfl))
  f277 := Tryz.func111.trans (congrArg some (by kernel_rfl))
  t0 := Tryz.underlying0
  a0 := Tryz.isAgg0
  z0 := Tryz.sizeOf0
  v0 := Tryz.zeroValue0
  t3 := Tryz.underlying3
  a3 := Tryz.isAgg3
  z3 := Tryz.sizeOf3
  v3 := Tryz.zeroValue3
  t4 := Tryz.underlying4
  a4 := Tryz.isAgg4
  z4 := Tryz.sizeOf4
  v4 := Tryz.zeroValue4
  t5 := Tryz.underlying5
  a5 := Tryz.isAgg5
  z5 := Tryz.sizeOf5
  v5 := Tryz.zeroValue5
  t9 := Tryz.underlying9
  a9 := Tryz.isAgg9
  z9 := Tryz.sizeOf9
  v9 := Tryz.zeroValue9
  t20 := Tryz.underlying20
  a20 := Tryz.isAgg20
  z20 := Tryz.sizeOf20
  v20 := Tryz.zeroValue20
  t37 := Tryz.underlying25
  a37 := Tryz.isAgg25
  z37 := Tryz.sizeOf25
  v37 := Tryz.zeroValue25
  t46 := Tryz.underlying82
  a46 := Tryz.isAgg82
  z46 := Tryz.sizeOf82
  v46 := Tryz.zeroValue82
  t51 := Tryz.underlying149
  a51 := Tryz.isAgg149
  z51 := Tryz.sizeOf149
  v51 := Tryz.zeroValue149
  t53 := Tryz.underlying92
  a53 := Tryz.isAgg92
  z53 := Tryz.sizeOf92
  v53 := Tryz.zeroValue92
  t70 := Tryz.underlying134
  a70 := Tryz.isAgg134
  z70 := Tryz.sizeOf134
  v70 := Tryz.zeroValue134
  t72 := Tryz.underlying136
  a72 := Tryz.isAgg136
  z72 := Tryz.sizeOf136
  v72 := Tryz.zeroValue136
  t75 := Tryz.underlying139
  a75 := Tryz.isAgg139
  z75 := Tryz.sizeOf139
  v75 := Tryz.zeroValue139
  t76 := Tryz.underlying140
  a76 := Tryz.isAgg140
  z76 := Tryz.sizeOf140
  v76 := Tryz.zeroValue140
  t109 := Tryz.underlying131
  a109 := Tryz.isAgg131
  z109 := Tryz.sizeOf131
  v109 := Tryz.zeroValue131
  t127 := Tryz.underlying154
  a127 := Tryz.isAgg154
  z127 := Tryz.sizeOf154
  v127 := Tryz.zeroValue154
  t146 := Tryz.underlying150
  a146 := Tryz.isAgg150
  z146 := Tryz.sizeOf150
  v146 := Tryz.zeroValue150
  t148 := Tryz.underlying152
  a148 := Tryz.isAgg152
  z148 := Tryz.sizeOf152
  v148 := Tryz.zeroValue152
  t164 := Tryz.underlying163
  a164 := Tryz.isAgg163
  z164 := Tryz.sizeOf163
  v164 := Tryz.zeroValue163 }
theorem Tryz.Builder_Extra_105 : Builder.Extra Tryz.prog Tryz.lays105_ren := {
  sizeBuilder := by kernel_rfl
  liesBuilder := by kernel_rfl
  t5 := Tryz.underlying5
  a5 := Tryz.isAgg5
  z5 := Tryz.sizeOf5
  v5 := Tryz.zeroValue5
  infoByte := by kernel_rfl
  cellsByte := by kernel_rfl
  sizeByte := by kernel_rfl
  neB5 := by decide }
open Go.RowKit Go.Lib in
/-- THE MAIN CASE: at least two copies of a string that is not empty. (LAID: no walk: one application.) -/
theorem Tryz.strings_Repeat_main (s : ByteArray) (c : Nat) (w : World) (hc2 : 2 ≤ c) (hc : c ≤ 9223372036854775807) (hlen : s.size * c ≤ 140737488355328) (h0 : 0 < s.size) :
    Calls Tryz.prog 64 #[.string s, .int .i64 c] w fun e w' => e = .returned (.string ⟨(Lib.repeatL s.data.toList c).toArray⟩) ∧ Below w.heap.size w w' := Any.strings_Repeat_main Tryz.lays105 Tryz.Builder_Extra_105 s c w hc2 hc hlen h0
open Go.RowKit Go.Lib in
theorem Tryz.strings_Repeat_zero (s : ByteArray) (w : World) :
    Calls Tryz.prog 64 #[.string s, .int .i64 0] w fun e w' => e = .returned (.string ⟨#[]⟩) ∧ w' = w := Any.strings_Repeat_zero Tryz.lays105 s w
open Go.RowKit Go.Lib in
theorem Tryz.strings_Repeat_one (s : ByteArray) (w : World) :
    Calls Tryz.prog 64 #[.string s, .int .i64 1] w fun e w' => e = .returned (.string s) ∧ w' = w := Any.strings_Repeat_one Tryz.lays105 s w
open Go.RowKit Go.Lib in
/-- Copies of the empty string. (LAID: no walk: one application.) -/
theorem Tryz.strings_Repeat_empty (s : ByteArray) (c : Nat) (w : World) (hc2 : 2 ≤ c) (hc : c ≤ 9223372036854775807) (h0 : s.size = 0) :
    Calls Tryz.prog 64 #[.string s, .int .i64 c] w fun e w' => e = .returned (.string ⟨#[]⟩) ∧ w' = w := Any.strings_Repeat_empty Tryz.lays105 s c w hc2 hc h0
open Go.RowKit Go.Lib in
/-- count < 0: "It panics if count is negative". (LAID: no walk: one application.) -/
theorem Tryz.strings_Repeat_negative (s : ByteArray) (c : Int) (w : World) (hc : c < 0) :
    Calls Tryz.prog 64 #[.string s, .int .i64 c] w fun e w' => e = .panicked [{ v := repeatPanic Tryz.lays105_ren "strings: negative Repeat count", recovered := false }] ∧ w' = w := Any.strings_Repeat_negative Tryz.lays105 s c w hc
open Go.RowKit Go.Lib in
/-- len(s) * count is no int: ".. or if the result of (len(s) * count) overflows". (LAID: no walk: one application.) -/
theorem Tryz.strings_Repeat_overflow (s : ByteArray) (c : Nat) (w : World) (hc : c ≤ 9223372036854775807) (hs : s.size ≤ 9223372036854775807) (hbig : 9223372036854775807 < s.size * c) :
    Calls Tryz.prog 64 #[.string s, .int .i64 c] w fun e w' => e = .panicked [{ v := repeatPanic Tryz.lays105_ren "strings: Repeat output length overflow", recovered := false }] ∧ w' = w := Any.strings_Repeat_overflow Tryz.lays105 s c w hc hs hbig
open Go.RowKit Go.Lib in
/-- **strings.Repeat: count ≥ 0, the result within one allocation: count copies of s.** (LAID: no walk: one application.) -/
theorem Tryz.strings_Repeat (s : ByteArray) (c : Nat) (w : World) (hc : c ≤ 9223372036854775807) (hlen : s.size * c ≤ 140737488355328) :
    Calls Tryz.prog 64 #[.string s, .int .i64 c] w fun e w' => e = .returned (.string ⟨(Lib.repeatL s.data.toList c).toArray⟩) ∧ Below w.heap.size w w' := Any.strings_Repeat Tryz.lays105 Tryz.Builder_Extra_105 s c w hc hlen
end Go.Proofs

namespace Go.Proofs.YtcdmbnbanopioaaGreatDoor
open Go.RowKit
set_option linter.unusedVariables false

/-- The tables lie in the program's variables. -/
structure Tabs (w : World) : Prop where
  pow : Lib.TabIs Tryz.prog w "internal/strconv.uint64pow10" .u64 Lib.pow10Tab
  lt : 0 < w.heap.size
  text : ∀ k : Nat, k < 8 → w.cell? ⟨0, 2 * k, none⟩ = some (.string (kindText k))
  num : ∀ k : Nat, k < 8 → w.cell? ⟨0, 2 * k + 1, none⟩ = some (.int .i64 (kindNum k : Nat))
theorem Tabs.grew {w w' : World} (h : Tabs w) (g : Grew w w') : Tabs w' :=
  ⟨Lib.tabBelow_of_tabIs h.pow _ g, Nat.lt_of_lt_of_le h.lt g.size, fun k hk => (g.cell (by exact h.lt)).trans (h.text k hk), fun k hk => (g.cell (by exact h.lt)).trans (h.num k hk)⟩

/-- A conversion's row. -/
theorem bytes_grew (w : World) (e : TypeId) (s : ByteArray) : Grew w (Lib.bytesWorld w e s) := by
  refine ⟨rfl, rfl, rfl, by rw [Lib.bytesWorld_size]; omega, fun j hj => Lib.bytesWorld_at_old w e s j hj⟩
theorem bytes_row (w : World) (e : TypeId) (s : ByteArray) : Row .u8 (Lib.bytesWorld w e s) (.slice (some ⟨w.heap.size, 0, none⟩) s.size (grownCap w s.size 0 e)) (nat s) := by
  refine ⟨_, _, by rw [nat_length], by rw [nat_length]; exact grownCap_ge w _ _ _, fun hp => ⟨_, 0, rfl, by rw [Lib.bytesWorld_size]; omega, fun i hi => ?_⟩⟩
  rw [nat_length] at hi
  rw [Nat.zero_add, Lib.bytesWorld_cell w e s i hi]
  unfold wd nat
  rw [List.getD_eq_getElem?_getD, List.getD_eq_getElem?_getD, List.getElem?_map]
  cases s.data.toList[i]? <;> rfl

theorem nmo_digits (least : Nat) (v : Value) (ns : List Nat) (w : World) (hr : Row .i64 w v ns) (hl : least ≤ 4) (h3 : ns.length ≤ 3) (hn : ∀ i, wd ns i < 10000) (ht : Tabs w) :
    Calls Tryz.prog 45 #[.int .i64 (least : Nat), v] w fun e w' => e = .returned (.string (padTo least ns ns.length)) ∧ Grew w w' := by
  obtain ⟨A, c, rfl, hc, hrow⟩ := hr
  have HR := Lib.hid hrow
  have HT := Lib.hid ht
  have HN := Lib.hid hn
  clear hrow ht hn
  go_enter Tryz.func45, Tryz.ntmps45
  go_wp2_with fail
  go_loopg [5, 11] (ns.length) (fun kx s5 s11 wr => ∃ k : Nat, k + kx = ns.length ∧ s11 = .int .i64 k ∧ s5 = .string (padTo least ns k) ∧ Hid (Grew w wr))
  case atStart => exact ⟨0, by omega, rfl, rfl, Lib.hid (Grew.refl _)⟩
  case round =>
    obtain ⟨k, hk, rfl, rfl, hg⟩ := hrel
    by_cases hlt : k < ns.length
    · obtain ⟨b, o, rfl, hb, hcell⟩ := HR.out (by omega)
      have hx := (hg.out.cell (p := ⟨b, o + k, none⟩) hb).trans (hcell k hlt)
      have hnk := HN.out k
      have HI := fun w' (g : Grew w w') => Lib.hid (Tryz.strconv_Itoa (wd ns k : Nat) (by omega) (by omega) w' (HT.out.grew g).pow)
      have hO := dec_len 4 (wd ns k) (by decide) hnk
      have hS := Lib.hid (show padTo least ns (k + 1) = padTo least ns k ++ padB least (wd ns k) from rfl)
      have hsz := padTo_size least ns hl HN.out k
      have hU := Lib.hid (show padB least (wd ns k) = ⟨(Lib.repeatL [48] (least - (Lib.decDigits (wd ns k)).length)).toArray⟩ ++ ⟨(Lib.decDigits (wd ns k)).toArray⟩ from rfl)
      have hOs : (⟨(Lib.decDigits (wd ns k)).toArray⟩ : ByteArray).size = (Lib.decDigits (wd ns k)).length := by rw [← nat_length, nat_mk, List.length_map]
      rw [itoa_nat] at HI
      generalize wd ns k = n at *
      obtain ⟨O, hOe⟩ : ∃ O : ByteArray, (⟨(Lib.decDigits n).toArray⟩ : ByteArray) = O := ⟨_, rfl⟩
      rw [hOe] at HI hOs hU
      rw [← hOs] at hU hO
      have HRep := fun w' => Lib.hid (Tryz.strings_Repeat ⟨#[48]⟩ (least - O.size) w' (by omega) (by show 1 * (least - O.size) ≤ _; omega))
      rw [show (⟨#[48]⟩ : ByteArray).data.toList = [48] from rfl] at HRep
      have hRs : (⟨(Lib.repeatL [48] (least - O.size)).toArray⟩ : ByteArray).size = least - O.size := by rw [← nat_length, nat_mk, List.length_map, rep_48, List.length_replicate]
      generalize (⟨(Lib.repeatL [48] (least - O.size)).toArray⟩ : ByteArray) = Z at *
      have e1 : IntKind.i64.wrap ((least : Int) - (O.size : Int)) = (least : Int) - (O.size : Int) := IntWalk.i64_in _ (by omega)
      have em : max ((least : Int) - (O.size : Int)) 0 = ((least - O.size : Nat) : Int) := by omega
      have c1 : ¬ 9223372036854775807 < Z.size + O.size := by omega
      have c2 : ¬ 9223372036854775807 < (padTo least ns k).size + (Z ++ O).size := by rw [ByteArray.size_append]; omega
      generalize padTo least ns k = T at *
      clear hcell hOe hOs hRs
      go_wp2_with (go_at_call 63; refine (HI _ hg.out).out.mono ?_; rintro e w1 ⟨rfl, kk, os, rfl⟩)
      have g1 := Lib.hid (hg.out.trans (Lib.below_grow _ wr (Nat.le_refl _) kk os))
      generalize Sort.grow (wr.drewN kk) os = w1 at *
      go_wp2_with (go_at_call 64; refine (HRep _).out.mono ?_; rintro e w2 ⟨rfl, g2⟩; replace g2 := Lib.hid (g1.out.trans g2))
      go_roundg (ns.length - (k + 1))
      case measure => omega
      case rel => exact ⟨k + 1, by omega, by go_num, by rw [hS.out, hU.out], Lib.hid g2.out⟩
    · obtain rfl : k = ns.length := by omega
      go_wp2_with fail
      go_ret
      exact ⟨rfl, hg.out⟩

/-- A new variable of two cells. -/
theorem two_new (w : World) (x y : Value) (E : TypeId) : ∃ W, w.alloc (.cells #[x, y] E) = W ∧ Grew w W ∧ w.heap.size < W.heap.size ∧ (W.cell? ⟨w.heap.size, 0, none⟩ = some x ∧ W.cell? ⟨w.heap.size, 1, none⟩ = some y) ∧ W.frozen? ⟨w.heap.size, 0, none⟩ = false ∧ W.frozen? ⟨w.heap.size, 1, none⟩ = false :=
  ⟨_, rfl, (Grew.refl _).alloc _, by simp, ⟨by simp [go_sem], by simp [go_sem]⟩, by simp [go_sem], by simp [go_sem]⟩
theorem two_put {w W : World} (g : Grew w W) (x y : Value) : Grew w ((W.setCell ⟨w.heap.size, 0, none⟩ x).setCell ⟨w.heap.size, 1, none⟩ y) := (g.setCell (Nat.le_refl _) _).setCell (Nat.le_refl _) _

def AskedT (er : Nat) (L : ByteArray) (n : Nat) (w : World) (e : Ending) (w' : World) : Prop := e = .returned (.tuple #[.agg #[.string L, .int .i64 (n : Nat)], .int .i64 (er : Nat)]) ∧ Grew w w'
theorem kind_text (k : Nat) (h : 1 ≤ k ∧ k ≤ 7) : (kindText k).toList.isEmpty = false := by
  have : ∀ k : Fin 8, 1 ≤ k.val → (kindText k.val).toList.isEmpty = false := by decide +kernel
  exact this ⟨k, by omega⟩ h.1
set_option maxHeartbeats 1000000 in
theorem asked_none (k : Nat) (every : Int) (w : World) (hk : k < 256) (h : k = 0 ∨ 7 < k) (hv : -9223372036854775808 ≤ every ∧ every ≤ 9223372036854775807) (ht : Tabs w) :
    Calls Tryz.prog 43 #[.int .u8 (k : Nat), .int .i64 every] w (AskedT 7 ⟨#[]⟩ 0 w) := by
  have HT := Lib.hid ht
  clear ht
  rcases h with rfl | h
  · go_enter Tryz.func43, Tryz.ntmps43
    go_upto_region 1 with fail
    obtain ⟨W, hW, g0, hl, ⟨c0, c1⟩, f0, f1⟩ := two_new w (.string ⟨#[]⟩) (.int .i64 0) 78
    rw [hW]
    clear hW
    have hx := (HT.out.grew g0).text 0 (by decide)
    rw [show kindText 0 = ⟨#[]⟩ from rfl] at hx
    go_wp2_with fail
    refine bodyPost_ret (by simp [results, Tryz.results43, go_sem, c0, c1]; try rfl) rfl ?_
    exact ⟨rfl, two_put g0 _ _⟩
  · have h8 : (8 : Int) ≤ k := by omega
    go_enter Tryz.func43, Tryz.ntmps43
    go_upto_region 1 with fail
    obtain ⟨W, hW, g0, hl, ⟨c0, c1⟩, f0, f1⟩ := two_new w (.string ⟨#[]⟩) (.int .i64 0) 78
    rw [hW]
    clear hW
    go_wp2_with fail
    refine bodyPost_ret (by simp [results, Tryz.results43, go_sem, c0, c1]; try rfl) rfl ?_
    exact ⟨rfl, two_put g0 _ _⟩
set_option maxHeartbeats 1000000 in
theorem asked_arg (k : Nat) (every : Int) (w : World) (hk : 1 ≤ k ∧ k ≤ 7) (h : every < 0 ∨ 10 < every) (hv : -9223372036854775808 ≤ every ∧ every ≤ 9223372036854775807) (ht : Tabs w) :
    Calls Tryz.prog 43 #[.int .u8 (k : Nat), .int .i64 every] w (AskedT 2 ⟨#[]⟩ 0 w) := by
  have HT := Lib.hid ht
  have hL := kind_text k hk
  have h8 : ¬ (8 : Int) ≤ k := by omega
  have h9 : (k : Int) < 8 := by omega
  clear ht
  rcases h with h | h
  all_goals
    go_enter Tryz.func43, Tryz.ntmps43
    go_upto_region 1 with fail
    obtain ⟨W, hW, g0, hl, ⟨c0, c1⟩, f0, f1⟩ := two_new w (.string ⟨#[]⟩) (.int .i64 0) 78
    rw [hW]
    clear hW
    have hx := (HT.out.grew g0).text k (by omega)
    rw [Nat.mul_comm] at hx
    go_wp2_with fail
    refine bodyPost_ret (by simp [results, Tryz.results43, go_sem, c0, c1]; try rfl) rfl ?_
    exact ⟨rfl, two_put g0 _ _⟩
set_option maxHeartbeats 1000000 in
theorem asked_ok (k : Nat) (every : Int) (w : World) (hk : 1 ≤ k ∧ k ≤ 7) (h : 0 ≤ every ∧ every ≤ 10) (ht : Tabs w) :
    Calls Tryz.prog 43 #[.int .u8 (k : Nat), .int .i64 every] w (AskedT 0 (kindText k) (kindNum k) w) := by
  have HT := Lib.hid ht
  have hL := kind_text k hk
  have h8 : ¬ (8 : Int) ≤ k := by omega
  have h9 : (k : Int) < 8 := by omega
  have h0 : ¬ every < 0 := by omega
  have h1 : ¬ 10 < every := by omega
  clear ht h
  go_enter Tryz.func43, Tryz.ntmps43
  go_upto_region 1 with fail
  obtain ⟨W, hW, g0, hl, ⟨c0, c1⟩, f0, f1⟩ := two_new w (.string ⟨#[]⟩) (.int .i64 0) 78
  rw [hW]
  clear hW
  have hx := (HT.out.grew g0).text k (by omega)
  have hy := (HT.out.grew g0).num k (by omega)
  rw [Nat.mul_comm] at hx hy
  generalize kindText k = L at *
  generalize kindNum k = m at *
  go_wp2_with fail
  refine bodyPost_ret (by simp [results, Tryz.results43, go_sem, c0, c1]; try rfl) rfl ?_
  exact ⟨rfl, two_put g0 _ _⟩

theorem row_lit_i64 (w : World) (E : TypeId) (fr : Nat × Nat) (ns : List Nat) : Row .i64 (w.alloc (.cells (ns.map fun n => Value.int .i64 (n : Nat)).toArray E fr)) (.slice (some ⟨w.heap.size, 0, none⟩) ns.length ns.length) ns :=
  Row.of_block (heap_alloc_new _ _) (fun i hi => by simp [wd, hi]) _ (Nat.le_refl _)
theorem wd_one (n : Nat) (h : n < 10000) : ∀ i, wd [n] i < 10000 := fun i => by
  rcases i with _ | i
  · exact h
  · exact (by decide : 0 < 10000)
theorem wd_three (a b c : Nat) (ha : a < 10000) (hb : b < 10000) (hc : c < 10000) : ∀ i, wd [a, b, c] i < 10000 := fun i => by
  rcases i with _ | _ | _ | i
  · exact ha
  · exact hb
  · exact hc
  · exact (by decide : 0 < 10000)
theorem no_empty {s : ByteArray} (h : s.size ≠ 0) : s.toList.isEmpty = false := by
  rw [Lib.toList_data]
  cases hq : s.data.toList with
  | nil =>
    exfalso
    apply h
    rw [← nat_length]; unfold nat; rw [hq]; rfl
  | cons x l => rfl
end Go.Proofs.YtcdmbnbanopioaaGreatDoor


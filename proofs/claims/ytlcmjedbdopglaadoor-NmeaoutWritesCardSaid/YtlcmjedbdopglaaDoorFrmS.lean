/-
  Frames as plain lists: their bytes, what stands at a begin, what is taken out.
  The document's frames: a frame's bytes.
  The document's frames: the bytes of the two kinds that count their bytes.
-/
import Derived.Test.YtlcmjedbdopglaaDoorSumM
import Derived.Test.YtlcmjedbdopglaaDoorRngL
import Derived.Test.YtlcmjedbdopglaaDoorSumX
import Derived.LoopTactic
import Derived.Deep.RegionHeld3
namespace Go.Proofs.YtlcmjedbdopglaaDoor
open Go.RowKit
set_option linter.unusedVariables false

/- Frames as plain lists: their bytes, what stands at a begin, what is taken out. -/
/-- May a byte stand in a sentence? A digit of a sum. -/
def may (b : Nat) : Bool := decide (32 ≤ b ∧ b ≤ 126 ∧ b ≠ 36 ∧ b ≠ 42)
def digit (n : Nat) : Nat := if n < 10 then 48 + n else 55 + n
/-- What the sums of a UBX frame go over. -/
def ubxRow (ns : List Nat) : List Nat := [wd ns 0, wd ns 1, (ns.length - 2) % 256, (ns.length - 2) / 256] ++ ns.drop 2
/-- The error of a frame's bytes, by its number; its bytes where there is none. -/
def frameErr (k : Nat) (ns : List Nat) : Nat :=
  if k = 1 then (if 76 < ns.length then 3 else if ns.all may = true then 0 else 5)
  else if k = 2 then (if ns.length < 2 then 4 else if 514 < ns.length then 3 else 0)
  else if k = 3 then (if 1023 < ns.length then 3 else 0)
  else 2
def frameRow (k : Nat) (ns : List Nat) : List Nat :=
  if k = 1 then 36 :: (ns ++ [42, digit (xorOf ns / 16), digit (xorOf ns % 16), 13, 10])
  else if k = 2 then [181, 98] ++ (ubxRow ns ++ [fletA (ubxRow ns), fletB (ubxRow ns)])
  else [160, 162, ns.length / 256, ns.length % 256] ++ (ns ++ [fifOf ns / 256, fifOf ns % 256, 176, 179])
def frameBytes (k : Nat) (ns : List Nat) : List Nat := if frameErr k ns = 0 then frameRow k ns else []

/-- The frame that bytes begin: its kind, its body as far as it is there; is it there; can it not be. -/
def bodyOf (size : Nat) (L : List Nat) : Nat × List Nat × Bool × Bool :=
  if wd L 0 = 36 then
    (if 76 < ((L.drop 1).takeWhile may).length then (1, (L.drop 1).takeWhile may, false, true)
     else (1, (L.drop 1).takeWhile may, decide (((L.drop 1).takeWhile may).length + 1 < L.length), false))
  else if wd L 0 = 181 then
    (if 1 < L.length ∧ wd L 1 ≠ 98 then (2, [], false, true)
     else if L.length < 6 then (2, [], false, false)
     else if 512 < wd L 4 + 256 * wd L 5 ∨ size < wd L 4 + 256 * wd L 5 + 8 then (2, [], false, true)
     else if L.length < 6 + (wd L 4 + 256 * wd L 5) then (2, [], false, false)
     else (2, wd L 2 :: wd L 3 :: (L.drop 6).take (wd L 4 + 256 * wd L 5), true, false))
  else if wd L 0 = 160 then
    (if 1 < L.length ∧ wd L 1 ≠ 162 then (3, [], false, true)
     else if L.length < 4 then (3, [], false, false)
     else if 1023 < 256 * wd L 2 + wd L 3 ∨ size < 256 * wd L 2 + wd L 3 + 8 then (3, [], false, true)
     else if L.length < 4 + (256 * wd L 2 + wd L 3) then (3, [], false, false)
     else (3, (L.drop 4).take (256 * wd L 2 + wd L 3), true, false))
  else (0, [], false, true)
/-- How far two rows are the same. -/
def common : List Nat → List Nat → Nat
  | x :: xs, y :: ys => if x = y then common xs ys + 1 else 0
  | _, _ => 0
/-- What stands at a begin: 0 short, 1 whole, 2 wrong; the frame and its length, where it is whole. -/
def standOf (size : Nat) (L : List Nat) : Nat × Nat × List Nat × Nat :=
  if L.length = 0 then (0, 0, [], 0)
  else if (bodyOf size L).2.2.2 = true then (2, 0, [], 0)
  else if (bodyOf size L).2.2.1 = true ∧ common (frameBytes (bodyOf size L).1 (bodyOf size L).2.1) L = (frameBytes (bodyOf size L).1 (bodyOf size L).2.1).length then
    (1, (bodyOf size L).1, (bodyOf size L).2.1, (frameBytes (bodyOf size L).1 (bodyOf size L).2.1).length)
  else if (bodyOf size L).2.2.1 = true ∧ common (frameBytes (bodyOf size L).1 (bodyOf size L).2.1) L < L.length then (2, 0, [], 0)
  else if L.length = size then (2, 0, [], 0)
  else (0, 0, [], 0)
/-- What is taken out next: the frame, if there is one; how many bytes were dropped as wrong; what is left. -/
def nextOf (size : Nat) : List Nat → Option (Nat × List Nat) × Nat × List Nat
  | [] => (none, 0, [])
  | x :: L =>
    if (standOf size (x :: L)).1 = 0 then (none, 0, x :: L)
    else if (standOf size (x :: L)).1 = 1 then (some ((standOf size (x :: L)).2.1, (standOf size (x :: L)).2.2.1), 0, (x :: L).drop (standOf size (x :: L)).2.2.2)
    else ((nextOf size L).1, (nextOf size L).2.1 + 1, (nextOf size L).2.2)
/-- All that is taken out, one behind the other. -/
inductive Took (size : Nat) : List Nat → List (Nat × List Nat) → Nat → List Nat → Prop where
  | none (L : List Nat) (h : (nextOf size L).1 = Option.none) : Took size L [] (nextOf size L).2.1 (nextOf size L).2.2
  | some (L : List Nat) (x : Nat × List Nat) (fs : List (Nat × List Nat)) (d : Nat) (R : List Nat) (h : (nextOf size L).1 = Option.some x) (t : Took size (nextOf size L).2.2 fs d R) : Took size L (x :: fs) ((nextOf size L).2.1 + d) R

theorem Took.det {size : Nat} {L : List Nat} {fs : List (Nat × List Nat)} {d : Nat} {R : List Nat} (h : Took size L fs d R) : ∀ {fs' : List (Nat × List Nat)} {d' : Nat} {R' : List Nat}, Took size L fs' d' R' → fs = fs' ∧ d = d' ∧ R = R' := by
  induction h with
  | none L h =>
    intro fs' d' R' k
    cases k with
    | none _ _ => exact ⟨rfl, rfl, rfl⟩
    | some _ x fs d R h' t => rw [h] at h'; cases h'
  | some L x fs d R h t ih =>
    intro fs' d' R' k
    cases k with
    | none _ h' => rw [h] at h'; cases h'
    | some _ x' fs1 d1 R1 h' t' =>
      rw [h] at h'
      obtain ⟨rfl, rfl, rfl⟩ := ih t'
      cases h'
      exact ⟨rfl, rfl, rfl⟩

theorem common_le (xs ys : List Nat) : common xs ys ≤ xs.length ∧ common xs ys ≤ ys.length := by
  induction xs generalizing ys with
  | nil => simp [common]
  | cons x xs ih =>
    cases ys with
    | nil => simp [common]
    | cons y ys =>
      unfold common
      have := ih ys
      split <;> simp <;> omega
theorem common_self (xs ys : List Nat) : common xs (xs ++ ys) = xs.length := by
  induction xs with
  | nil => simp [common]
  | cons x xs ih => simp [common, ih]
/-- As it is reckoned: place by place. -/
theorem common_eq (xs ys : List Nat) (n : Nat) (h : ∀ i, i < n → wd xs i = wd ys i) (hx : n ≤ xs.length) (hy : n ≤ ys.length) (he : n = xs.length ∨ n = ys.length ∨ wd xs n ≠ wd ys n) : common xs ys = n := by
  induction xs generalizing ys n with
  | nil => simp at hx; simp [common, hx]
  | cons x xs ih =>
    cases ys with
    | nil => simp at hy; simp [common, hy]
    | cons y ys =>
      cases n with
      | zero =>
        rcases he with he | he | he
        · simp at he
        · simp at he
        · simp [wd] at he
          simp [common, he]
      | succ n =>
        have h0 := h 0 (by omega)
        simp [wd] at h0
        have := ih ys n (fun i hi => by have := h (i + 1) (by omega); simpa [wd] using this) (by simpa using hx) (by simpa using hy) (by
          rcases he with he | he | he
          · left; simpa using he
          · right; left; simpa using he
          · right; right; simpa [wd] using he)
        simp [common, h0, this]

theorem nextOf_length (size : Nat) (L : List Nat) : (nextOf size L).2.2.length ≤ L.length := by
  induction L with
  | nil => simp [nextOf]
  | cons x L ih =>
    unfold nextOf
    split
    · simp
    · split
      · simp [List.length_drop]
      · simp; omega
theorem takeWhile_all (ns rest : List Nat) (p : Nat → Bool) (x : Nat) (h : ns.all p = true) (hx : p x = false) : (ns ++ x :: rest).takeWhile p = ns := by
  induction ns with
  | nil => simp [hx]
  | cons a ns ih =>
    simp only [List.all_cons, Bool.and_eq_true] at h
    simp [h.1, ih h.2]

/-- A frame that has bytes is whole where they stand, if there is room for so long a one. -/
theorem stand_whole (size : Nat) (k : Nat) (ns rest : List Nat) (he : frameErr k ns = 0) (hs : (frameRow k ns).length ≤ size) : standOf size (frameRow k ns ++ rest) = (1, k, ns, (frameRow k ns).length) := by
  have hb : bodyOf size (frameRow k ns ++ rest) = (k, ns, true, false) := by
    unfold frameErr at he
    by_cases h1 : k = 1
    · subst h1
      simp only [if_true] at he
      have hl : ns.length ≤ 76 := by by_cases h : 76 < ns.length <;> simp_all <;> omega
      have ha : ns.all may = true := by by_cases h : 76 < ns.length <;> simp_all
      have ht : ((frameRow 1 ns ++ rest).drop 1).takeWhile may = ns := by
        simp only [frameRow, if_true, List.cons_append, List.drop_succ_cons, List.drop_zero, List.append_assoc]
        exact takeWhile_all ns _ may 42 ha (by decide)
      unfold bodyOf
      rw [ht, if_pos (by simp [frameRow, wd]), if_neg (by omega)]
      simp [frameRow]
    · by_cases h2 : k = 2
      · subst h2
        simp only [show ¬ (2 : Nat) = 1 by omega, if_false, if_true] at he
        have hl : 2 ≤ ns.length ∧ ns.length ≤ 514 := by by_cases h : ns.length < 2 <;> by_cases h' : 514 < ns.length <;> simp_all <;> omega
        obtain ⟨a, b, t, rfl⟩ : ∃ a b t, ns = a :: b :: t := by
          match ns, hl with
          | a :: b :: t, _ => exact ⟨a, b, t, rfl⟩
        simp only [List.length_cons] at hl
        have e : frameRow 2 (a :: b :: t) ++ rest = 181 :: 98 :: a :: b :: (t.length % 256) :: (t.length / 256) :: (t ++ (fletA (ubxRow (a :: b :: t)) :: fletB (ubxRow (a :: b :: t)) :: rest)) := by
          simp [frameRow, ubxRow, wd]
        have hlen : (frameRow 2 (a :: b :: t)).length = t.length + 8 := by simp [frameRow, ubxRow]
        rw [hlen] at hs
        rw [e]
        unfold bodyOf
        have hd : t.length % 256 + 256 * (t.length / 256) = t.length := by omega
        simp only [wd, List.getD_cons_zero, List.getD_cons_succ, hd]
        simp [show ¬ 512 < t.length by omega, show ¬ size < t.length + 8 by omega]
        split <;> simp_all <;> omega
      · by_cases h3 : k = 3
        · subst h3
          simp only [show ¬ (3 : Nat) = 1 by omega, show ¬ (3 : Nat) = 2 by omega, if_false, if_true] at he
          have hl : ns.length ≤ 1023 := by by_cases h : 1023 < ns.length <;> simp_all <;> omega
          have e : frameRow 3 ns ++ rest = 160 :: 162 :: (ns.length / 256) :: (ns.length % 256) :: (ns ++ (fifOf ns / 256 :: fifOf ns % 256 :: 176 :: 179 :: rest)) := by
            simp [frameRow]
          have hlen : (frameRow 3 ns).length = ns.length + 8 := by simp [frameRow]
          rw [hlen] at hs
          rw [e]
          unfold bodyOf
          have hd : 256 * (ns.length / 256) + ns.length % 256 = ns.length := by omega
          simp only [wd, List.getD_cons_zero, List.getD_cons_succ, hd]
          simp [show ¬ 1023 < ns.length by omega, show ¬ size < ns.length + 8 by omega]
          split <;> simp_all <;> omega
        · simp [h1, h2, h3] at he
  have hr : frameBytes k ns = frameRow k ns := by unfold frameBytes; rw [if_pos he]
  have h0 : ¬ (frameRow k ns ++ rest).length = 0 := by
    unfold frameRow
    split <;> try split
    all_goals simp
  unfold standOf
  rw [if_neg h0, hb]
  simp only [hr, common_self]
  simp
theorem row_pos (k : Nat) (ns : List Nat) : ∃ x L, frameRow k ns = x :: L := by
  unfold frameRow
  split
  · exact ⟨_, _, rfl⟩
  · split
    · exact ⟨_, _, rfl⟩
    · exact ⟨_, _, rfl⟩
theorem next_whole (size : Nat) (k : Nat) (ns rest : List Nat) (he : frameErr k ns = 0) (hs : (frameRow k ns).length ≤ size) : nextOf size (frameRow k ns ++ rest) = (some (k, ns), 0, rest) := by
  have h := stand_whole size k ns rest he hs
  obtain ⟨x, L, e⟩ := row_pos k ns
  have hd : (frameRow k ns ++ rest).drop (frameRow k ns).length = rest := by simp
  rw [e, List.cons_append] at h hd ⊢
  unfold nextOf
  rw [h]
  simp only [Nat.one_ne_zero, if_false, if_true]
  rw [hd]
/-- A byte that begins no frame is dropped. -/
theorem next_between (size x : Nat) (L : List Nat) (h : x ≠ 36 ∧ x ≠ 181 ∧ x ≠ 160) : nextOf size (x :: L) = ((nextOf size L).1, (nextOf size L).2.1 + 1, (nextOf size L).2.2) := by
  have hb : bodyOf size (x :: L) = (0, [], false, true) := by
    unfold bodyOf
    simp [wd, h.1, h.2.1, h.2.2]
  have hs : standOf size (x :: L) = (2, 0, [], 0) := by
    unfold standOf
    rw [hb]
    simp
  conv => lhs; unfold nextOf
  rw [hs]
  simp

theorem digit_lt (n : Nat) (h : n < 16) : digit n < 256 := by unfold digit; split <;> omega
theorem may_lt {b : Nat} (h : may b = true) : b < 256 := by unfold may at h; simp at h; omega
/- The document's frames: a frame's bytes. -/
theorem frm_ret_bool {a b : Bool} (h : a = b) : Ending.returned (.bool a) = .returned (.bool b) := by rw [h]
theorem ref08_May (x : Nat) (w : World) (hx : x < 256) : Calls Tryd.prog 31 #[.int .u8 x] w fun e w' => e = .returned (.bool (may x)) ∧ w = w' := by
  have hm : may x = (decide ((32 : Int) ≤ x) && decide ((x : Int) ≤ 126) && decide ((x : Int) ≠ 36) && decide ((x : Int) ≠ 42)) := by
    unfold may
    rw [Bool.eq_iff_iff]
    simp
    omega
  rw [hm]
  clear hm
  go_enter Tryd.func31, Tryd.ntmps31
  go_wp2
  all_goals go_ret
  all_goals (refine ⟨frm_ret_bool ?_, rfl⟩; rw [Bool.eq_iff_iff]; simp)
  all_goals omega
theorem ref08_Digit (n : Nat) (w : World) (hn : n < 16) : Calls Tryd.prog 33 #[.int .u8 n] w fun e w' => e = .returned (.int .u8 (digit n : Nat)) ∧ w = w' := by
  by_cases h : n < 10
  · have hd : ((digit n : Nat) : Int) = 48 + n := by unfold digit; rw [if_pos h]; omega
    rw [hd]
    go_enter Tryd.func33, Tryd.ntmps33
    go_wp2_with fail
    go_ret
    exact ⟨rfl, rfl⟩
  · have hd : ((digit n : Nat) : Int) = 65 + n - 10 := by unfold digit; rw [if_neg h]; omega
    rw [hd]
    go_enter Tryd.func33, Tryd.ntmps33
    go_wp2_with fail
    go_ret
    exact ⟨rfl, rfl⟩

/-- A literal row. -/
theorem own_lit {B : Nat} (w : World) (E : TypeId) (cs : Array Value) (ns : List Nat) (n : Nat) (hB : B ≤ w.heap.size) (hc : cs = (cellsOf .u8 ns).toArray) (hn : n = ns.length) (hm : ns.length ≤ maxLen) : Own B E .u8 (w.alloc (.cells cs E)) (.slice (some ⟨w.heap.size, 0, none⟩) n n) ns := by
  subst hc hn
  exact Own.lit w .u8 E B hB ns hm

def BytesTells (k : Nat) (ns : List Nat) (w : World) (e : Ending) (w' : World) : Prop :=
  ∃ v, e = .returned (.tuple #[v, .int .i64 (frameErr k ns : Nat)]) ∧ Own w.heap.size 5 .u8 w' v (frameBytes k ns) ∧ Grew w w'
theorem bytesTells_no {k : Nat} {ns : List Nat} {w w' : World} (x : Nat) (h : frameErr k ns = x) (h0 : x ≠ 0) (g : Grew w w') : BytesTells k ns w (.returned (.tuple #[.slice none 0 0, .int .i64 (x : Nat)])) w' := by
  refine ⟨_, by rw [h], ?_, g⟩
  unfold frameBytes
  rw [if_neg (by omega)]
  exact Own.nil _ _ _ _
theorem bytesTells_is {k : Nat} {ns : List Nat} {w w' : World} {v : Value} (h : frameErr k ns = 0) (ho : Own w.heap.size 5 .u8 w' v (frameRow k ns)) (g : Grew w w') : BytesTells k ns w (.returned (.tuple #[v, .int .i64 0])) w' := by
  refine ⟨v, by rw [h]; rfl, ?_, g⟩
  unfold frameBytes
  rw [if_pos h]
  exact ho

theorem ref08_Bytes0 (k : Nat) (fv : Value) (ns : List Nat) (w : World) (hR : Row .u8 w fv ns) (hl : ns.length ≤ 5000) (hk : k < 256) (h1 : k ≠ 1) (h2 : k ≠ 2) (h3 : k ≠ 3) :
    Calls Tryd.prog 15 #[.agg #[.int .u8 k, fv]] w (BytesTells k ns w) := by
  have he : frameErr k ns = 2 := by unfold frameErr; rw [if_neg h1, if_neg h2, if_neg h3]
  have H := fun w' (g : Grew w w') => Lib.hid (bytesTells_no 2 he (by omega) g)
  obtain ⟨A, c, rfl, hc⟩ := hR.form
  have k1 : ¬ (k : Int) = 1 := by omega
  have k2 : ¬ (k : Int) = 2 := by omega
  have k3 : ¬ (k : Int) = 3 := by omega
  clear he h1 h2 h3 hR
  go_enter Tryd.func15, Tryd.ntmps15
  go_wp2_with fail
  go_ret2
  exact (H _ ((Grew.refl w).alloc _)).out

set_option maxRecDepth 100000 in
set_option maxHeartbeats 2000000 in
theorem ref08_Bytes1 (fv : Value) (ns : List Nat) (w : World) (hR : Row .u8 w fv ns) (hB : Bytes ns) (hl : ns.length ≤ 5000) :
    Calls Tryd.prog 15 #[.agg #[.int .u8 1, fv]] w (BytesTells 1 ns w) := by
  obtain ⟨A, c, rfl, hc⟩ := hR.form
  by_cases h76 : 76 < ns.length
  · have H := fun w' (g : Grew w w') => Lib.hid (bytesTells_no (k := 1) (ns := ns) 3 (by unfold frameErr; simp [h76]) (by omega) g)
    go_enter Tryd.func15, Tryd.ntmps15
    go_wp2_with fail
    go_ret2
    exact (H _ ((Grew.refl w).alloc _)).out
  · have HR := Lib.hid hR
    have HB := Lib.hid hB
    have HM := fun x w hx => Lib.hid (ref08_May x w hx)
    have HD := fun x w hx => Lib.hid (ref08_Digit x w hx)
    clear hB hR
    go_enter Tryd.func15, Tryd.ntmps15
    go_wp2_with fail
    have G : Grew w (w.alloc (.cells #[.int .u8 1, .slice A ns.length c] 34)) := (Grew.refl w).alloc _
    have k1 : (w.alloc (.cells #[.int .u8 1, .slice A ns.length c] 34)).cell? ⟨w.heap.size, 1, none⟩ = some (.slice A ns.length c) := by simp
    generalize (w.alloc (.cells #[.int .u8 1, .slice A ns.length c] 34)) = W at *
    go_loop [6] (fun i => ∃ j : Nat, j ≤ ns.length ∧ i = .int .i64 (j : Nat) ∧ Hid (∀ i, i < j → may (wd ns i) = true)) (fun i => ns.length - (intOf i).toNat)
    case atStart => exact ⟨0, by omega, rfl, fun i hi => by omega⟩
    case round =>
      obtain ⟨j, hj, rfl, hM⟩ := hrel
      by_cases hlt : j < ns.length
      · have hr := HR.out.grew G
        obtain ⟨Ax, cx, e0, hcx, hr⟩ := hr
        simp only [Value.slice.injEq] at e0
        obtain ⟨rfl, -, rfl⟩ := e0
        obtain ⟨rb, ro, rfl, hrb, hcell⟩ := hr (by omega)
        have y0 := hcell j (by omega)
        have hx256 := HB.out j
        clear hcell hcx hr hrb
        by_cases hmay : may (wd ns j) = true
        · have H1 := fun w => (HM (wd ns j) w hx256).out
          rw [hmay] at H1
          have HS : Hid (∀ i, i < j + 1 → may (wd ns i) = true) := fun i hi => by
            rcases Nat.lt_or_ge i j with h | h
            · exact hM.out i h
            · obtain rfl : i = j := by omega
              exact hmay
          have H1' := fun w => Lib.hid (H1 w)
          clear H1 hM hmay
          generalize wd ns j = x at *
          go_wp2_with fail
          refine (H1' _).out.mono ?_
          rintro e w1 ⟨rfl, rfl⟩
          go_wp2_with fail
          go_round
          case rel => exact ⟨j + 1, by omega, by simp, HS⟩
          case measure => simp [intOf]; omega
        · have hmf : may (wd ns j) = false := by simpa using hmay
          have H1 := fun w => (HM (wd ns j) w hx256).out
          rw [hmf] at H1
          have H1' := fun w => Lib.hid (H1 w)
          have H := fun w' (g : Grew w w') => Lib.hid (bytesTells_no (k := 1) (ns := ns) 5 (by
            unfold frameErr
            have : ¬ ns.all may = true := fun h => by
              rw [List.all_eq_true] at h
              rw [wd_lt hlt] at hmf
              rw [h _ (List.getElem_mem hlt)] at hmf
              cases hmf
            simp only [if_true, if_neg h76, if_neg this]) (by omega) g)
          clear H1 hM hmay hmf
          generalize wd ns j = x at *
          go_wp2_with fail
          refine (H1' _).out.mono ?_
          rintro e w1 ⟨rfl, rfl⟩
          go_wp2_with fail
          go_ret2
          exact (H _ G).out
      · obtain rfl : j = ns.length := by omega
        have hE : frameErr 1 ns = 0 := by
          unfold frameErr
          have : ns.all may = true := by
            rw [List.all_eq_true]
            intro x hx
            obtain ⟨i, hi, rfl⟩ := List.getElem_of_mem hx
            have := hM.out i hi
            rwa [wd_lt hi] at this
          simp only [if_true, if_neg h76, if_pos this]
        have hr := HR.out.grew G
        have HX := Lib.hid (ref07_Xor _ ns W hr HB.out (by omega))
        have hO0 := own_lit (B := w.heap.size) W 5 #[.int .u8 36] [36] 1 G.size rfl rfl (by decide)
        have G1 := G.alloc (.cells #[.int .u8 36] 5)
        have hR1 := hr.grew ((Grew.refl W).alloc (.cells #[.int .u8 36] 5))
        have k2 := ((((Grew.refl W).alloc (.cells #[.int .u8 36] 5)).cell (p := ⟨w.heap.size, 1, none⟩) (World.block_lt_of_cell? W _ k1)).trans k1)
        have hx : xorOf ns < 256 := xorTo_lt HB.out ns.length
        have HF := fun v w' (ho : Own w.heap.size 5 .u8 w' v (frameRow 1 ns)) g => Lib.hid (bytesTells_is hE ho g)
        simp only [frameRow, if_true] at HF
        generalize xorOf ns = x at *
        have HD1 : ∀ w, Hid (Calls Tryd.prog 33 #[.int .u8 ((x : Int) / 16)] w fun e w' => e = .returned (.int .u8 (digit (x / 16) : Nat)) ∧ w = w') := fun w => by
          have := (HD (x / 16) w (by omega)).out
          rw [show (((x / 16 : Nat)) : Int) = (x : Int) / 16 by omega] at this
          exact this
        have HD2 : ∀ w, Hid (Calls Tryd.prog 33 #[.int .u8 ((x : Int) % 16)] w fun e w' => e = .returned (.int .u8 (digit (x % 16) : Nat)) ∧ w = w') := fun w => by
          have := (HD (x % 16) w (by omega)).out
          rw [show (((x % 16 : Nat)) : Int) = (x : Int) % 16 by omega] at this
          exact this
        generalize digit (x / 16) = d1 at *
        generalize digit (x % 16) = d2 at *
        clear hM HM HB HR hr hE HD
        go_wp2_with fail
        refine HX.out.mono ?_
        rintro e w1 ⟨rfl, rfl⟩
        go_wp2_with (refine wpList_joinN _ rfl _ _ 23 rfl w.heap.size 5 .u8 1 Tryd.underlying23 infoU8 (.slice (some ⟨W.heap.size, 0, none⟩) 1 1) [36] rfl hO0 _ ns rfl hR1 (by simp; omega) (by decide) (by have := G1.size; omega) ?_; intro v1 w1 hown hgrow hnil)
        have G2 := Grew.push G1 hO0 hgrow
        go_wp2_with fail
        refine (HD1 _).out.mono ?_
        rintro e w2 ⟨rfl, rfl⟩
        go_wp2_with fail
        refine (HD2 _).out.mono ?_
        rintro e w2 ⟨rfl, rfl⟩
        have hO1 := hown.alloc (.cells #[.int .u8 42, .int .u8 d1, .int .u8 d2, .int .u8 13, .int .u8 10] 5)
        have hR2 := (own_lit (B := 0) w1 5 #[.int .u8 42, .int .u8 d1, .int .u8 d2, .int .u8 13, .int .u8 10] [42, d1, d2, 13, 10] 5 (Nat.zero_le _) rfl rfl (by simp [maxLen])).row
        go_wp2_with (refine wpList_joinN _ rfl _ _ 23 rfl w.heap.size 5 .u8 1 Tryd.underlying23 infoU8 v1 ([36] ++ ns) rfl hO1 _ [42, d1, d2, 13, 10] rfl hR2 (by simp; omega) (by decide) (by have := (G2.alloc (.cells #[.int .u8 42, .int .u8 d1, .int .u8 d2, .int .u8 13, .int .u8 10] 5)).size; omega) ?_; intro v2 w2 hown2 hgrow2 hnil2)
        go_ret2
        exact (HF _ _ (by simpa using hown2) (Grew.push (G2.alloc _) hO1 hgrow2)).out
/- The document's frames: the bytes of the two kinds that count their bytes. -/
theorem own_base {B B' : Nat} {E : TypeId} {k : IntKind} {w : World} {v : Value} {ns : List Nat} (h : Own B E k w v ns) (hb : B' ≤ B) : Own B' E k w v ns := by
  obtain ⟨h1, h2⟩ := h
  refine ⟨h1, ?_⟩
  rcases h2 with h2 | ⟨b, cap, cur, e, hB, r⟩
  · exact .inl h2
  · exact .inr ⟨b, cap, cur, e, Nat.le_trans hb hB, r⟩
theorem fletB_lt (ns : List Nat) : fletB ns < 256 := by
  unfold fletB
  cases ns.length with
  | zero => simp [fletTo]
  | succ k => simp only [fletTo]; omega
set_option maxRecDepth 100000 in
set_option maxHeartbeats 2000000 in
theorem ref08_Bytes3 (fv : Value) (ns : List Nat) (w : World) (hR : Row .u8 w fv ns) (hB : Bytes ns) (hl : ns.length ≤ 5000) :
    Calls Tryd.prog 15 #[.agg #[.int .u8 3, fv]] w (BytesTells 3 ns w) := by
  obtain ⟨A, c, rfl, hc⟩ := hR.form
  by_cases hlong : 1023 < ns.length
  · have H := fun w' (g : Grew w w') => Lib.hid (bytesTells_no (k := 3) (ns := ns) 3 (by unfold frameErr; simp [hlong]) (by omega) g)
    go_enter Tryd.func15, Tryd.ntmps15
    go_wp2_with fail
    go_ret2
    exact (H _ ((Grew.refl w).alloc _)).out
  · have hE : frameErr 3 ns = 0 := by unfold frameErr; simp [hlong]
    have hx : fifOf ns < 32768 := by unfold fifOf; omega
    have HF := fun v w' (ho : Own w.heap.size 5 .u8 w' v (frameRow 3 ns)) g => Lib.hid (bytesTells_is hE ho g)
    simp only [frameRow, show ¬ (3 : Nat) = 1 by omega, show ¬ (3 : Nat) = 2 by omega, if_false] at HF
    have HX := fun w' (g : Grew w w') => Lib.hid (ref07_Fifteen _ ns w' (hR.grew g) hB (by omega))
    have HR := Lib.hid hR
    generalize fifOf ns = x at *
    clear hB hR hE
    go_enter Tryd.func15, Tryd.ntmps15
    go_wp2_with fail
    have G : Grew w (w.alloc (.cells #[.int .u8 3, .slice A ns.length c] 34)) := (Grew.refl w).alloc _
    have k1 : (w.alloc (.cells #[.int .u8 3, .slice A ns.length c] 34)).cell? ⟨w.heap.size, 1, none⟩ = some (.slice A ns.length c) := by simp
    generalize (w.alloc (.cells #[.int .u8 3, .slice A ns.length c] 34)) = W at *
    refine (HX _ G).out.mono ?_
    rintro e w1 ⟨rfl, rfl⟩
    have k2 := fun o => ((((Grew.refl W).alloc o).cell (p := ⟨w.heap.size, 1, none⟩) (World.block_lt_of_cell? W _ k1)).trans k1)
    have hs0 : w.heap.size ≤ W.heap.size := G.size
    have hO0 := own_lit (B := w.heap.size) W 5 #[.int .u8 160, .int .u8 162, .int .u8 ((ns.length : Int) / 256), .int .u8 ((ns.length : Int) % 256)] [160, 162, ns.length / 256, ns.length % 256] 4 hs0 (by simp [cellsOf]) rfl (by simp [maxLen])
    have k2' := k2 (.cells #[.int .u8 160, .int .u8 162, .int .u8 ((ns.length : Int) / 256), .int .u8 ((ns.length : Int) % 256)] 5)
    have G1 := G.alloc (.cells #[.int .u8 160, .int .u8 162, .int .u8 ((ns.length : Int) / 256), .int .u8 ((ns.length : Int) % 256)] 5)
    have hR1 := HR.out.grew G1
    clear k2 HR HX
    have HL := fun w' => Lib.hid (own_lit (B := 0) w' 5 #[.int .u8 ((x : Int) / 256), .int .u8 ((x : Int) % 256), .int .u8 176, .int .u8 179] [x / 256, x % 256, 176, 179] 4 (Nat.zero_le _) (by simp [cellsOf]) rfl (by simp [maxLen])).row
    go_wp2_with (first | (refine wpList_joinN _ rfl _ _ 23 rfl w.heap.size 5 .u8 1 Tryd.underlying23 infoU8 (.slice (some ⟨W.heap.size, 0, none⟩) 4 4) _ rfl hO0 _ ns rfl hR1 (by simp; omega) (by decide) (by have := G1.size; omega) ?_; intro v1 w1 hown hgrow hnil; have G2 := Grew.push G1 hO0 hgrow) | (refine wpList_joinN _ rfl _ _ 23 rfl w.heap.size 5 .u8 1 Tryd.underlying23 infoU8 v1 _ rfl (hown.alloc _) _ [x / 256, x % 256, 176, 179] rfl (HL w1).out (by simp; omega) (by decide) (by have := (G2.alloc (.cells #[] 5)).size; simp at this ⊢; omega) ?_; intro v2 w2 hown2 hgrow2 hnil2))
    go_ret2
    exact (HF _ _ (by rw [← List.append_assoc]; exact hown2) (Grew.push (G2.alloc _) (hown.alloc _) hgrow2)).out

set_option maxRecDepth 100000 in
set_option maxHeartbeats 2000000 in
theorem ref08_Bytes2 (fv : Value) (ns : List Nat) (w : World) (hR : Row .u8 w fv ns) (hB : Bytes ns) (hl : ns.length ≤ 5000) :
    Calls Tryd.prog 15 #[.agg #[.int .u8 2, fv]] w (BytesTells 2 ns w) := by
  obtain ⟨A, c, rfl, hc⟩ := hR.form
  by_cases hshort : ns.length < 2
  · have H := fun w' (g : Grew w w') => Lib.hid (bytesTells_no (k := 2) (ns := ns) 4 (by unfold frameErr; simp [hshort]) (by omega) g)
    go_enter Tryd.func15, Tryd.ntmps15
    go_wp2_with fail
    go_ret2
    exact (H _ ((Grew.refl w).alloc _)).out
  · by_cases hlong : 514 < ns.length
    · have H := fun w' (g : Grew w w') => Lib.hid (bytesTells_no (k := 2) (ns := ns) 3 (by unfold frameErr; simp [hshort, hlong]) (by omega) g)
      go_enter Tryd.func15, Tryd.ntmps15
      go_wp2_with fail
      go_ret2
      exact (H _ ((Grew.refl w).alloc _)).out
    · have hE : frameErr 2 ns = 0 := by unfold frameErr; simp [hshort, hlong]
      have HF := fun v w' (ho : Own w.heap.size 5 .u8 w' v (frameRow 2 ns)) g => Lib.hid (bytesTells_is hE ho g)
      have e2 : frameRow 2 ns = [181, 98] ++ ubxRow ns ++ [fletA (ubxRow ns), fletB (ubxRow ns)] := by unfold frameRow; simp
      rw [e2] at HF
      have hub : ubxRow ns = [wd ns 0, wd ns 1, (ns.length - 2) % 256, (ns.length - 2) / 256] ++ ns.drop 2 := rfl
      have hbu : Bytes (ubxRow ns) := by
        rw [hub]
        refine Bytes.of_mem (fun x hx => ?_)
        simp only [List.mem_append, List.mem_cons, List.not_mem_nil, or_false] at hx
        rcases hx with (rfl | rfl | rfl | rfl) | h
        · exact hB 0
        · exact hB 1
        · omega
        · omega
        · obtain ⟨i, hi, rfl⟩ := List.getElem_of_mem (List.mem_of_mem_drop h)
          have := hB i
          rwa [wd_lt hi] at this
      have hul : (ubxRow ns).length = ns.length + 2 := by rw [hub]; simp; omega
      have hfa : fletA (ubxRow ns) < 256 := by unfold fletA; omega
      have hfb := fletB_lt (ubxRow ns)
      have HX := fun v w' (h : Row .u8 w' v (ubxRow ns)) => Lib.hid (ref07_Fletcher v (ubxRow ns) w' h hbu (by omega))
      have hR' := hR
      obtain ⟨Ax, cx, e0, hcx, hr⟩ := hR'
      simp only [Value.slice.injEq] at e0
      obtain ⟨rfl, -, rfl⟩ := e0
      obtain ⟨rb, ro, rfl, hrb, hcell⟩ := hr (by omega)
      have y0 := hcell 0 (by omega)
      have y1 := hcell 1 (by omega)
      rw [Nat.add_zero] at y0
      have hcut := hR.cut 2 (by omega)
      have h0 := hB 0
      have h1 := hB 1
      have hn2 : (2 : Int) ≤ ns.length := by omega
      have hn0 : (0 : Int) < ns.length := by omega
      have hn1 : (1 : Int) < ns.length := by omega
      have p0 : 0 < ns.length := by omega
      have p1 : 1 < ns.length := by omega
      have p2 : 2 ≤ ns.length := by omega
      have p3 : 2 ≤ c := by omega
      have e1 : IntKind.i64.wrap ((ns.length : Int) - 2) = (ns.length : Int) - 2 := IntWalk.i64_in _ (by omega)
      have e3 : ((ns.length : Int) - 2).tmod 256 = (((ns.length - 2) % 256 : Nat) : Int) := by rw [Int.tmod_eq_emod_of_nonneg (by omega)]; omega
      have e4 : ((ns.length : Int) - 2).tdiv 256 = (((ns.length - 2) / 256 : Nat) : Int) := by rw [Int.tdiv_eq_ediv_of_nonneg (by omega)]; omega
      have b1 : (ns.length - 2) % 256 < 256 := by omega
      have b2 : (ns.length - 2) / 256 < 256 := by omega
      have HUB := Lib.hid hub
      have HUL := Lib.hid hul
      have HCUT := fun w' (g : Grew w w') => Lib.hid (hcut.grew g)
      have HY : ∀ w', Grew w w' → Hid (w'.cell? ⟨rb, ro, none⟩ = some (.int .u8 (wd ns 0 : Nat)) ∧ w'.cell? ⟨rb, ro + 1, none⟩ = some (.int .u8 (wd ns 1 : Nat))) := fun w' g => Lib.hid ⟨(g.cell (p := ⟨rb, ro, none⟩) hrb).trans y0, (g.cell (p := ⟨rb, ro + 1, none⟩) hrb).trans y1⟩
      clear hub hul hcut y0 y1 hcell hr hR hE e2 hbu hB hrb hcx
      generalize ubxRow ns = u at *
      generalize fletA u = fa at *
      generalize fletB u = fb at *
      generalize wd ns 0 = x0 at *
      generalize wd ns 1 = x1 at *
      generalize (ns.length - 2) % 256 = m1 at *
      generalize (ns.length - 2) / 256 = m2 at *
      have e5 : IntKind.u8.wrap (m1 : Int) = m1 := IntWalk.u8_in _ (by omega)
      have e6 : IntKind.u8.wrap (m2 : Int) = m2 := IntWalk.u8_in _ (by omega)
      have e7 : IntKind.i64.wrap (m2 : Int) = m2 := IntWalk.i64_in _ (by omega)
      have HO := fun B w' hB => Lib.hid ((own_lit (B := B) w' 5 #[.int .u8 x0, .int .u8 x1, .int .u8 m1, .int .u8 m2] [x0, x1, m1, m2] 4 hB rfl rfl (by simp [maxLen])).drew)
      rcases Decidable.em (c = 2) with hc2 | hc2
      · subst hc2
        simp only [if_true, show ns.length - 2 = 0 by omega, Nat.sub_self] at HCUT
        go_enter Tryd.func15, Tryd.ntmps15
        go_wp2_with fail
        have G : Grew w (w.alloc (.cells #[.int .u8 2, .slice (some ⟨rb, ro, none⟩) ns.length 2] 34)) := (Grew.refl w).alloc _
        have k1 : (w.alloc (.cells #[.int .u8 2, .slice (some ⟨rb, ro, none⟩) ns.length 2] 34)).cell? ⟨w.heap.size, 1, none⟩ = some (.slice (some ⟨rb, ro, none⟩) ns.length 2) := by simp
        generalize (w.alloc (.cells #[.int .u8 2, .slice (some ⟨rb, ro, none⟩) ns.length 2] 34)) = W at *
        have hws := World.block_lt_of_cell? W _ k1
        have KS : ∀ w', Grew W w' → Hid (w'.cell? ⟨w.heap.size, 1, none⟩ = some (.slice (some ⟨rb, ro, none⟩) ns.length 2) ∧ w'.cell? ⟨rb, ro, none⟩ = some (.int .u8 x0) ∧ w'.cell? ⟨rb, ro + 1, none⟩ = some (.int .u8 x1)) := fun w' g =>
          Lib.hid ⟨(g.cell (p := ⟨w.heap.size, 1, none⟩) hws).trans k1, (HY w' (G.trans g)).out.1, (HY w' (G.trans g)).out.2⟩
        have HO1 := HO W.heap.size W (Nat.le_refl _)
        have GW := ((Grew.refl W).alloc (.cells #[.int .u8 x0, .int .u8 x1, .int .u8 m1, .int .u8 m2] 5)).drew
        have HC := HCUT _ (G.trans GW)
        clear HY HO HCUT
        go_region_held3 (fun w' => w'.cell? ⟨w.heap.size, 1, none⟩ = some (.slice (some ⟨rb, ro, none⟩) ns.length 2) ∧ w'.cell? ⟨rb, ro, none⟩ = some (.int .u8 x0) ∧ w'.cell? ⟨rb, ro + 1, none⟩ = some (.int .u8 x1)) (first | exact (KS _ D).out | exact (KS _ GW).out | exact (KS _ (Grew.refl W).drew).out) (first | (refine step_joinN _ rfl _ _ 23 rfl W.heap.size 5 .u8 1 Tryd.underlying23 infoU8 _ _ rfl HO1.out _ (ns.drop 2) rfl HC.out (by simp; omega) (by decide) GW.size ?_; intro v1 w1 hown hgrow hnil; have D := Grew.push GW HO1.out hgrow))
        rw [← HUB.out] at hown
        have GD := G.trans D
        have hO1 := own_base hown G.size
        have HL1 := own_lit (B := w.heap.size) w1 5 #[.int .u8 181, .int .u8 98] [181, 98] 2 GD.size rfl rfl (by simp [maxLen])
        have HL2 := fun w' => Lib.hid (own_lit (B := 0) w' 5 #[.int .u8 fa, .int .u8 fb] [fa, fb] 2 (Nat.zero_le _) rfl rfl (by simp [maxLen])).row
        have hR1 := (hO1.alloc (.cells #[.int .u8 181, .int .u8 98] 5)).row
        have G1 := GD.alloc (.cells #[.int .u8 181, .int .u8 98] 5)
        have HX1 := HX _ _ hO1.row
        have hul := HUL.out
        clear KS HO1 GW HC HX HUB hgrow hnil hown G D k1 hws HUL e1 e3 e4 e5 e6 e7 b1 b2 p0 p1 p2 p3 hn0 hn1 hn2 h0 h1
        go_wp2_with fail
        refine HX1.out.mono ?_
        rintro e w2 ⟨rfl, rfl⟩
        go_wp2_with (first | (refine wpList_joinN _ rfl _ _ 23 rfl w.heap.size 5 .u8 1 Tryd.underlying23 infoU8 (.slice (some ⟨w1.heap.size, 0, none⟩) 2 2) _ rfl HL1 _ u rfl hR1 (by simp; omega) (by decide) G1.size ?_; intro v2 w2 hown hgrow hnil; have G2 := Grew.push G1 HL1 hgrow) | (refine wpList_joinN _ rfl _ _ 23 rfl w.heap.size 5 .u8 1 Tryd.underlying23 infoU8 v2 _ rfl (hown.alloc _) _ [fa, fb] rfl (HL2 w2).out (by simp; omega) (by decide) (by have := (G2.alloc (.cells #[] 5)).size; simp at this ⊢; omega) ?_; intro v3 w3 hown2 hgrow2 hnil2))
        go_ret2
        exact (HF _ _ hown2 (Grew.push (G2.alloc _) (hown.alloc _) hgrow2)).out
      · simp only [if_neg hc2] at HCUT
        go_enter Tryd.func15, Tryd.ntmps15
        go_wp2_with fail
        have G : Grew w (w.alloc (.cells #[.int .u8 2, .slice (some ⟨rb, ro, none⟩) ns.length c] 34)) := (Grew.refl w).alloc _
        have k1 : (w.alloc (.cells #[.int .u8 2, .slice (some ⟨rb, ro, none⟩) ns.length c] 34)).cell? ⟨w.heap.size, 1, none⟩ = some (.slice (some ⟨rb, ro, none⟩) ns.length c) := by simp
        generalize (w.alloc (.cells #[.int .u8 2, .slice (some ⟨rb, ro, none⟩) ns.length c] 34)) = W at *
        have hws := World.block_lt_of_cell? W _ k1
        have KS : ∀ w', Grew W w' → Hid (w'.cell? ⟨w.heap.size, 1, none⟩ = some (.slice (some ⟨rb, ro, none⟩) ns.length c) ∧ w'.cell? ⟨rb, ro, none⟩ = some (.int .u8 x0) ∧ w'.cell? ⟨rb, ro + 1, none⟩ = some (.int .u8 x1)) := fun w' g =>
          Lib.hid ⟨(g.cell (p := ⟨w.heap.size, 1, none⟩) hws).trans k1, (HY w' (G.trans g)).out.1, (HY w' (G.trans g)).out.2⟩
        have HO1 := HO W.heap.size W (Nat.le_refl _)
        have GW := ((Grew.refl W).alloc (.cells #[.int .u8 x0, .int .u8 x1, .int .u8 m1, .int .u8 m2] 5)).drew
        have HC := HCUT _ (G.trans GW)
        clear HY HO HCUT
        go_region_held3 (fun w' => w'.cell? ⟨w.heap.size, 1, none⟩ = some (.slice (some ⟨rb, ro, none⟩) ns.length c) ∧ w'.cell? ⟨rb, ro, none⟩ = some (.int .u8 x0) ∧ w'.cell? ⟨rb, ro + 1, none⟩ = some (.int .u8 x1)) (first | exact (KS _ D).out | exact (KS _ GW).out | exact (KS _ (Grew.refl W).drew).out) (first | (refine step_joinN _ rfl _ _ 23 rfl W.heap.size 5 .u8 1 Tryd.underlying23 infoU8 _ _ rfl HO1.out _ (ns.drop 2) rfl HC.out (by simp; omega) (by decide) GW.size ?_; intro v1 w1 hown hgrow hnil; have D := Grew.push GW HO1.out hgrow))
        rw [← HUB.out] at hown
        have GD := G.trans D
        have hO1 := own_base hown G.size
        have HL1 := own_lit (B := w.heap.size) w1 5 #[.int .u8 181, .int .u8 98] [181, 98] 2 GD.size rfl rfl (by simp [maxLen])
        have HL2 := fun w' => Lib.hid (own_lit (B := 0) w' 5 #[.int .u8 fa, .int .u8 fb] [fa, fb] 2 (Nat.zero_le _) rfl rfl (by simp [maxLen])).row
        have hR1 := (hO1.alloc (.cells #[.int .u8 181, .int .u8 98] 5)).row
        have G1 := GD.alloc (.cells #[.int .u8 181, .int .u8 98] 5)
        have HX1 := HX _ _ hO1.row
        have hul := HUL.out
        clear KS HO1 GW HC HX HUB hgrow hnil hown G D k1 hws HUL e1 e3 e4 e5 e6 e7 b1 b2 p0 p1 p2 p3 hn0 hn1 hn2 h0 h1
        go_wp2_with fail
        refine HX1.out.mono ?_
        rintro e w2 ⟨rfl, rfl⟩
        go_wp2_with (first | (refine wpList_joinN _ rfl _ _ 23 rfl w.heap.size 5 .u8 1 Tryd.underlying23 infoU8 (.slice (some ⟨w1.heap.size, 0, none⟩) 2 2) _ rfl HL1 _ u rfl hR1 (by simp; omega) (by decide) G1.size ?_; intro v2 w2 hown hgrow hnil; have G2 := Grew.push G1 HL1 hgrow) | (refine wpList_joinN _ rfl _ _ 23 rfl w.heap.size 5 .u8 1 Tryd.underlying23 infoU8 v2 _ rfl (hown.alloc _) _ [fa, fb] rfl (HL2 w2).out (by simp; omega) (by decide) (by have := (G2.alloc (.cells #[] 5)).size; simp at this ⊢; omega) ?_; intro v3 w3 hown2 hgrow2 hnil2))
        go_ret2
        exact (HF _ _ hown2 (Grew.push (G2.alloc _) (hown.alloc _) hgrow2)).out
end Go.Proofs.YtlcmjedbdopglaaDoor

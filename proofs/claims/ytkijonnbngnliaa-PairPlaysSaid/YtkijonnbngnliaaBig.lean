/-
  Plain numbers: words of 32 bits, the lowest ones first; sums, differences, doubles, comparisons, bits of what they come to. Nothing of the program.
-/
namespace Go.Proofs.Ytkijonnbngnliaa

/-- What the first k words of a function come to. -/
def sumTo (f : Nat → Nat) : Nat → Nat
  | 0 => 0
  | k + 1 => sumTo f k + f k * 4294967296 ^ k

/-- A word of a list; 0 beyond its end. -/
def wd (xs : List Nat) (i : Nat) : Nat := xs.getD i 0
/-- What the words of a list come to. -/
def val (xs : List Nat) : Nat := sumTo (wd xs) xs.length
def Words (xs : List Nat) : Prop := ∀ i, wd xs i < 4294967296

theorem wd_lt {xs : List Nat} {i : Nat} (h : i < xs.length) : wd xs i = xs[i] := by simp [wd, h]
theorem wd_ge {xs : List Nat} {i : Nat} (h : xs.length ≤ i) : wd xs i = 0 := by simp [wd, h]
theorem wd_snoc (xs : List Nat) (z i : Nat) : wd (xs ++ [z]) i = if i < xs.length then wd xs i else if i = xs.length then z else 0 := by
  unfold wd
  split
  · rename_i h; simp [List.getElem?_append_left h]
  · split
    · rename_i h; subst h; simp
    · rw [List.getD_eq_getElem?_getD, List.getElem?_eq_none (by simp; omega)]; rfl
theorem Words.nil : Words [] := fun i => by simp [wd]
theorem Words.snoc {xs : List Nat} {z : Nat} (h : Words xs) (hz : z < 4294967296) : Words (xs ++ [z]) := fun i => by
  rw [wd_snoc]; split
  · exact h i
  · split <;> omega
theorem Words.take {xs : List Nat} (h : Words xs) (k : Nat) : Words (xs.take k) := fun i => by
  have := h i
  unfold wd at *
  rw [List.getD_eq_getElem?_getD, List.getElem?_take]
  split
  · rw [← List.getD_eq_getElem?_getD]; exact this
  · simp

theorem pos_pow (k : Nat) : 0 < 4294967296 ^ k := Nat.pow_pos (by omega)
theorem sumTo_congr {f g : Nat → Nat} : ∀ {k : Nat}, (∀ i, i < k → f i = g i) → sumTo f k = sumTo g k
  | 0, _ => rfl
  | k + 1, h => by rw [sumTo, sumTo, sumTo_congr (fun i hi => h i (by omega)), h k (by omega)]
theorem sumTo_lt {f : Nat → Nat} (hf : ∀ i, f i < 4294967296) : ∀ k, sumTo f k < 4294967296 ^ k
  | 0 => by simp [sumTo]
  | k + 1 => by
    have h1 := sumTo_lt hf k
    have h2 : f k * 4294967296 ^ k ≤ 4294967295 * 4294967296 ^ k := Nat.mul_le_mul_right _ (by have := hf k; omega)
    rw [sumTo, Nat.pow_succ]
    omega
theorem sumTo_zero {f : Nat → Nat} {k : Nat} : ∀ {n : Nat}, k ≤ n → (∀ i, k ≤ i → i < n → f i = 0) → sumTo f n = sumTo f k
  | 0, hk, _ => by rw [show k = 0 by omega]
  | n + 1, hk, h => by
    by_cases e : k = n + 1
    · rw [e]
    · rw [sumTo, h n (by omega) (by omega), sumTo_zero (show k ≤ n by omega) (fun i h1 h2 => h i h1 (by omega))]; omega
theorem val_at {xs : List Nat} {n : Nat} (h : xs.length ≤ n) : sumTo (wd xs) n = val xs :=
  sumTo_zero h (fun _ h1 _ => wd_ge h1)
theorem val_nil : val [] = 0 := rfl
theorem val_snoc (xs : List Nat) (z : Nat) : val (xs ++ [z]) = val xs + z * 4294967296 ^ xs.length := by
  unfold val
  rw [List.length_append, List.length_singleton, sumTo, wd_snoc, if_neg (by omega), if_pos rfl]
  congr 1
  exact sumTo_congr (fun i hi => by rw [wd_snoc, if_pos hi])
theorem val_lt {xs : List Nat} (h : Words xs) : val xs < 4294967296 ^ xs.length := sumTo_lt h _
theorem val_take {xs : List Nat} {k : Nat} (hk : k ≤ xs.length) : val (xs.take k) = sumTo (wd xs) k := by
  unfold val
  rw [List.length_take, Nat.min_eq_left hk]
  exact sumTo_congr (fun i hi => by simp [wd, hi])
/-- What stands from word k on. -/
def sumFrom (f : Nat → Nat) (k : Nat) (n : Nat) : Nat := sumTo (fun i => f (k + i)) n
theorem sumTo_split (f : Nat → Nat) (k : Nat) : ∀ n, sumTo f (k + n) = sumTo f k + 4294967296 ^ k * sumFrom f k n
  | 0 => by simp [sumFrom, sumTo]
  | n + 1 => by
    have h := sumTo_split f k n
    unfold sumFrom at *
    rw [← Nat.add_assoc, sumTo, h, sumTo, Nat.mul_add, Nat.pow_add]
    have e : f (k + n) * (4294967296 ^ k * 4294967296 ^ n) = 4294967296 ^ k * (f (k + n) * 4294967296 ^ n) := by
      rw [← Nat.mul_assoc, Nat.mul_comm (f (k + n)), Nat.mul_assoc]
    omega

/-- Two numbers by their first word from above at which they part. -/
theorem val_gt {xs ys : List Nat} (_hx : Words xs) (hy : Words ys) {p : Nat} (hp : wd ys p < wd xs p) (h : ∀ i, p < i → wd xs i = wd ys i) : val ys < val xs := by
  have e1 := val_at (xs := xs) (n := p + 1 + (xs.length + ys.length)) (by omega)
  have e2 := val_at (xs := ys) (n := p + 1 + (xs.length + ys.length)) (by omega)
  rw [sumTo_split] at e1 e2
  have e3 : sumFrom (wd xs) (p + 1) (xs.length + ys.length) = sumFrom (wd ys) (p + 1) (xs.length + ys.length) :=
    sumTo_congr (fun i _ => h _ (by omega))
  rw [e3] at e1
  rw [← e1, ← e2, sumTo, sumTo]
  have h1 := sumTo_lt hy p
  have h2 : (wd ys p + 1) * 4294967296 ^ p ≤ wd xs p * 4294967296 ^ p := Nat.mul_le_mul_right _ hp
  rw [Nat.add_mul] at h2
  omega
theorem val_eq {xs ys : List Nat} (h : ∀ i, wd xs i = wd ys i) : val xs = val ys := by
  rw [← val_at (xs := xs) (n := xs.length + ys.length) (by omega), ← val_at (xs := ys) (n := xs.length + ys.length) (by omega)]
  exact sumTo_congr (fun i _ => h i)

/-- A bit of a number, by its word. -/
theorem bit_of {xs : List Nat} (h : Words xs) (j : Nat) : val xs / 2 ^ j % 2 = wd xs (j / 32) / 2 ^ (j % 32) % 2 := by
  have e := val_at (xs := xs) (n := j / 32 + 1 + xs.length) (by omega)
  rw [sumTo_split, sumTo] at e
  have hl := sumTo_lt h (j / 32)
  have hj : 2 ^ j = 4294967296 ^ (j / 32) * 2 ^ (j % 32) := by
    have : (4294967296 : Nat) = 2 ^ 32 := by decide
    rw [this, ← Nat.pow_mul, ← Nat.pow_add]; congr 1; omega
  have hr : 2 ^ (32 - j % 32) * 2 ^ (j % 32) = 4294967296 := by
    rw [← Nat.pow_add, show 32 - j % 32 + j % 32 = 32 by omega]
  have hr2 : 2 ^ (32 - j % 32) = 2 * 2 ^ (31 - j % 32) := by
    rw [show 32 - j % 32 = 31 - j % 32 + 1 by omega, Nat.pow_succ, Nat.mul_comm]
  rw [← e, hj, ← Nat.div_div_eq_div_mul, Nat.pow_succ]
  generalize sumTo (wd xs) (j / 32) = s at *
  generalize sumFrom (wd xs) (j / 32 + 1) xs.length = t at *
  have e2 : s + wd xs (j / 32) * 4294967296 ^ (j / 32) + 4294967296 ^ (j / 32) * 4294967296 * t = s + 4294967296 ^ (j / 32) * (wd xs (j / 32) + 4294967296 * t) := by
    rw [Nat.mul_add, Nat.mul_comm (wd xs (j / 32)), Nat.mul_assoc]; omega
  rw [e2, Nat.add_mul_div_left _ _ (pos_pow _), Nat.div_eq_of_lt hl, Nat.zero_add, ← hr, Nat.mul_comm (2 ^ (32 - j % 32)), Nat.mul_assoc, Nat.add_mul_div_left _ _ (Nat.two_pow_pos _), hr2, Nat.mul_assoc, Nat.add_mul_mod_self_left]

/-- One round of a sum: a word of each, and what was carried. -/
theorem sum_round {s t v c x y p : Nat} (h : s + t = v + c * p) : (s + x * p) + (t + y * p) = (v + (x + y + c) % 4294967296 * p) + (x + y + c) / 4294967296 * (p * 4294967296) := by
  have e : x + y + c = (x + y + c) % 4294967296 + 4294967296 * ((x + y + c) / 4294967296) := (Nat.mod_add_div _ _).symm
  have e2 : (x + y + c) * p = (x + y + c) % 4294967296 * p + (x + y + c) / 4294967296 * (p * 4294967296) := by
    rw [Nat.mul_comm p, ← Nat.mul_assoc, Nat.mul_comm ((x + y + c) / 4294967296), ← Nat.add_mul, ← e]
  rw [Nat.add_mul, Nat.add_mul] at e2
  omega
/-- One round of a double. -/
theorem double_round {s v c x p m : Nat} (h : 2 * s + m = v + c * p) : 2 * (s + x * p) + m = (v + (2 * x + c) % 4294967296 * p) + (2 * x + c) / 4294967296 * (p * 4294967296) := by
  have e : 2 * x + c = (2 * x + c) % 4294967296 + 4294967296 * ((2 * x + c) / 4294967296) := (Nat.mod_add_div _ _).symm
  have e2 : (2 * x + c) * p = (2 * x + c) % 4294967296 * p + (2 * x + c) / 4294967296 * (p * 4294967296) := by
    rw [Nat.mul_comm p, ← Nat.mul_assoc, Nat.mul_comm ((2 * x + c) / 4294967296), ← Nat.add_mul, ← e]
  rw [Nat.add_mul, Nat.mul_assoc] at e2
  omega
/-- One round of a difference: what was lent is 0 or 1. -/
theorem part_round {s t v c x y p : Nat} (h : s + c * p = v + t) (hx : x < 4294967296) (hy : y < 4294967296) (hc : c ≤ 1) :
    (s + x * p) + (1 - (4294967296 + x - y - c) / 4294967296) * (p * 4294967296) = (v + (4294967296 + x - y - c) % 4294967296 * p) + (t + y * p) := by
  obtain ⟨L, hL⟩ : ∃ L, 4294967296 + x - y - c = L := ⟨_, rfl⟩
  rw [hL]
  have h3 : L / 4294967296 ≤ 1 := by omega
  have e : L = L % 4294967296 + 4294967296 * (L / 4294967296) := (Nat.mod_add_div _ _).symm
  have k : 4294967296 + x = L % 4294967296 + 4294967296 * (L / 4294967296) + y + c := by omega
  have k2 : x + (1 - L / 4294967296) * 4294967296 = L % 4294967296 + y + c := by omega
  have k3 : (x + (1 - L / 4294967296) * 4294967296) * p = (L % 4294967296 + y + c) * p := by rw [k2]
  rw [Nat.add_mul, Nat.add_mul, Nat.add_mul, Nat.mul_assoc, Nat.mul_comm 4294967296 p] at k3
  omega
/-- A difference, when all rounds are done. -/
theorem part_end {xs ys : List Nat} (hx : Words xs) (_hy : Words ys) {v c : Nat} (hv : v < 4294967296 ^ xs.length) (hc : c ≤ 1) (hle : val ys ≤ val xs)
    (h : sumTo (wd xs) xs.length + c * 4294967296 ^ xs.length = v + sumTo (wd ys) xs.length) : v = val xs - val ys := by
  have hl := val_lt hx
  have e := val_at (xs := ys) (n := xs.length + ys.length) (by omega)
  rw [sumTo_split] at e
  have ht : sumFrom (wd ys) xs.length ys.length = 0 := by
    rcases Nat.eq_zero_or_pos (sumFrom (wd ys) xs.length ys.length) with h0 | h0
    · exact h0
    · have := Nat.le_mul_of_pos_right (4294967296 ^ xs.length) h0
      omega
  rw [ht, Nat.mul_zero, Nat.add_zero] at e
  rw [e] at h
  change val xs + _ = _ at h
  rcases Nat.lt_or_ge c 1 with h1 | h1
  · obtain rfl : c = 0 := by omega
    omega
  · obtain rfl : c = 1 := by omega
    omega

/-- What there is of a number from bit j on is twice what there is from the next one on, and its bit. -/
theorem from_bit (n j : Nat) : n / 2 ^ j = 2 * (n / 2 ^ (j + 1)) + n / 2 ^ j % 2 := by
  rw [Nat.pow_succ, ← Nat.div_div_eq_div_mul]; omega
theorem from_top {xs : List Nat} (h : Words xs) : val xs / 2 ^ (32 * xs.length) = 0 := by
  have := val_lt h
  have e : (4294967296 : Nat) = 2 ^ 32 := by decide
  rw [e, ← Nat.pow_mul] at this
  exact Nat.div_eq_of_lt this
/-- A round of a division. -/
theorem div_round {n d b : Nat} (hd : 0 < d) (hb : b < 2) :
    (2 * n + b) / d = 2 * (n / d) + (if d ≤ 2 * (n % d) + b then 1 else 0) ∧ (2 * n + b) % d = if d ≤ 2 * (n % d) + b then 2 * (n % d) + b - d else 2 * (n % d) + b := by
  have h := Nat.mod_add_div n d
  have hl := Nat.mod_lt n hd
  have e : 2 * n + b = (2 * (n % d) + b) + d * (2 * (n / d)) := by rw [Nat.mul_left_comm]; omega
  rw [e, Nat.add_mul_div_left _ _ hd, Nat.add_mul_mod_self_left]
  split
  · rename_i h1
    obtain ⟨m, hm⟩ : ∃ m, 2 * (n % d) + b = m + d := ⟨2 * (n % d) + b - d, by omega⟩
    rw [hm, Nat.add_div_right _ hd, Nat.add_mod_right, Nat.div_eq_of_lt (by omega), Nat.mod_eq_of_lt (by omega)]
    omega
  · rw [Nat.div_eq_of_lt (by omega), Nat.mod_eq_of_lt (by omega)]; omega

/-- The words of a number without noughts at the top. -/
def Tight (xs : List Nat) : Prop := xs ≠ [] → wd xs (xs.length - 1) ≠ 0
theorem Tight.low {xs : List Nat} (h : Tight xs) (hn : xs ≠ []) : 4294967296 ^ (xs.length - 1) ≤ val xs := by
  have hl : 0 < xs.length := List.length_pos_iff.2 hn
  have e : xs.length = (xs.length - 1) + 1 := by omega
  unfold val
  rw [e, sumTo]
  have := Nat.le_mul_of_pos_left (4294967296 ^ (xs.length - 1)) (Nat.pos_of_ne_zero (h hn))
  simp only [Nat.add_sub_cancel] at *
  omega
end Go.Proofs.Ytkijonnbngnliaa

/-
  UBX messages as plain lists: payloads and frames written; what is written is read again. Nothing of the program.
-/
import Derived.Test.YtcdmbnbanopioaaUbxM
namespace Go.Proofs.Ytcdmbnbanopioaa
open Go.RowKit
set_option linter.unusedVariables false

/-- A byte of a number (two's complement), the lowest one first. -/
def byteZ (v : Int) (k : Nat) : Nat := (v / ((256 ^ k : Nat) : Int) % 256).toNat
theorem byteZ_lt (v : Int) (k : Nat) : byteZ v k < 256 := by unfold byteZ; omega
/-- The first k bytes of a number, laid at a place. -/
def putLE (L : List Nat) (p : Nat) (v : Int) : Nat → List Nat
  | 0 => L
  | k + 1 => (putLE L p v k).set (p + k) (byteZ v k)
theorem putLE_length (L : List Nat) (p : Nat) (v : Int) : ∀ k, (putLE L p v k).length = L.length
  | 0 => rfl
  | k + 1 => by rw [putLE, List.length_set, putLE_length L p v k]
theorem putLE_other (L : List Nat) (p : Nat) (v : Int) (i : Nat) : ∀ k, p + k ≤ L.length → (i < p ∨ p + k ≤ i) → wd (putLE L p v k) i = wd L i
  | 0, _, _ => rfl
  | k + 1, hl, h => by
    rw [putLE, wd_set _ _ _ _ (by rw [putLE_length]; omega), if_neg (by omega)]
    exact putLE_other L p v i k (by omega) (by omega)
theorem putLE_at (L : List Nat) (p : Nat) (v : Int) (i : Nat) : ∀ k, p + k ≤ L.length → i < k → wd (putLE L p v k) (p + i) = byteZ v i
  | 0, _, h => absurd h (by omega)
  | k + 1, hl, h => by
    rw [putLE, wd_set _ _ _ _ (by rw [putLE_length]; omega)]
    by_cases e : i = k
    · subst e; rw [if_pos rfl]
    · rw [if_neg (by omega)]
      exact putLE_at L p v i k (by omega) (by omega)
theorem putLE_bytes {L : List Nat} (hB : Bytes L) (p : Nat) (v : Int) : ∀ k, p + k ≤ L.length → Bytes (putLE L p v k)
  | 0, _ => hB
  | k + 1, h => (putLE_bytes hB p v k (by omega)).set _ _ (by rw [putLE_length]; omega) (byteZ_lt v k)
theorem numLE_congr {S T : List Nat} {p : Nat} : ∀ {k : Nat}, (∀ i, i < k → wd S (p + i) = wd T (p + i)) → numLE S p k = numLE T p k
  | 0, _ => rfl
  | k + 1, h => by rw [numLE, numLE, numLE_congr (fun i hi => h i (by omega)), h k (by omega)]
/-- The bytes of a number as a number. -/
theorem emod_step (v : Int) (P : Nat) (hP : 0 < P) : v % ((P * 256 : Nat) : Int) = v % (P : Int) + (v / (P : Int) % 256) * (P : Int) := by
  have h1 := Int.emod_add_mul_ediv v (P : Int)
  have h2 := Int.emod_add_mul_ediv (v / (P : Int)) 256
  have h3 := Int.emod_nonneg v (show (P : Int) ≠ 0 by omega)
  have h4 := Int.emod_lt_of_pos v (show (0 : Int) < (P : Int) by omega)
  have h5 : 0 ≤ v / (P : Int) % 256 := by omega
  have h6 : v / (P : Int) % 256 ≤ 255 := by omega
  have hle : (v / (P : Int) % 256) * (P : Int) ≤ 255 * (P : Int) := Int.mul_le_mul_of_nonneg_right h6 (by omega)
  have hge : 0 ≤ (v / (P : Int) % 256) * (P : Int) := Int.mul_nonneg h5 (by omega)
  have e : v = (v % (P : Int) + (v / (P : Int) % 256) * (P : Int)) + ((P * 256 : Nat) : Int) * (v / (P : Int) / 256) := by
    have h7 : (P : Int) * (v / (P : Int)) = (P : Int) * (v / (P : Int) % 256) + (P : Int) * 256 * (v / (P : Int) / 256) := by
      conv => lhs; rw [← h2]
      rw [Int.mul_add, Int.mul_assoc]
    rw [Int.natCast_mul]
    have h8 : (P : Int) * (v / (P : Int) % 256) = (v / (P : Int) % 256) * (P : Int) := Int.mul_comm _ _
    have h9 : (((256 : Nat) : Int)) = 256 := rfl
    rw [h9]
    omega
  conv => lhs; rw [e]
  rw [Int.add_mul_emod_self_left]
  exact Int.emod_eq_of_lt (by omega) (by rw [Int.natCast_mul, show (((256 : Nat) : Int)) = 256 from rfl]; omega)
theorem numLE_of {S : List Nat} {p : Nat} {v : Int} : ∀ {k : Nat}, (∀ i, i < k → wd S (p + i) = byteZ v i) → (numLE S p k : Int) = v % ((256 ^ k : Nat) : Int)
  | 0, _ => by simp [numLE]
  | k + 1, h => by
    have ih := numLE_of (k := k) (fun i hi => h i (by omega))
    rw [numLE, Int.natCast_add, Int.natCast_mul, ih, h k (by omega), Nat.pow_succ, emod_step v (256 ^ k) (Nat.pow_pos (by decide))]
    have : ((byteZ v k : Nat) : Int) = v / ((256 ^ k : Nat) : Int) % 256 := by unfold byteZ; omega
    rw [this]
/-- A field's value out of its number. -/
def signZ (n : Nat) (s : Int) : Int := if s < 0 ∧ 256 ^ s.natAbs / 2 ≤ n then (n : Int) - (256 ^ s.natAbs : Nat) else (n : Int)
theorem getZ_sign (S : List Nat) (p : Nat) (s : Int) : getZ S p s = signZ (numLE S p s.natAbs) s := rfl
theorem pow_even (m : Nat) (h : 0 < m) : 256 ^ m = 2 * (256 ^ m / 2) := by
  obtain ⟨j, rfl⟩ : ∃ j, m = j + 1 := ⟨m - 1, by omega⟩
  rw [Nat.pow_succ]; omega
theorem sign_fits (n : Nat) (s : Int) (h : n < 256 ^ s.natAbs) (hs : s ≠ 0) : fitsZ (signZ n s) s = true := by
  have he := pow_even s.natAbs (by omega)
  unfold fitsZ signZ
  generalize 256 ^ s.natAbs = q at *
  by_cases h1 : s < 0
  · rw [if_pos h1]
    by_cases h2 : q / 2 ≤ n
    · rw [if_pos ⟨h1, h2⟩]; simp; omega
    · rw [if_neg (fun x => h2 x.2)]; simp; omega
  · rw [if_neg h1, if_neg (fun x => h1 x.1)]; simp; omega
theorem sign_mod (v s : Int) (n : Nat) (hs : s ≠ 0) (hn : (n : Int) = v % ((256 ^ s.natAbs : Nat) : Int)) : signZ n s = v ↔ fitsZ v s = true := by
  have hp : 0 < 256 ^ s.natAbs := Nat.pow_pos (by decide)
  have h1 := Int.emod_nonneg v (show ((256 ^ s.natAbs : Nat) : Int) ≠ 0 by omega)
  have h2 := Int.emod_lt_of_pos v (show (0 : Int) < ((256 ^ s.natAbs : Nat) : Int) by omega)
  constructor
  · intro h
    rw [← h]
    exact sign_fits n s (by omega) hs
  · have he := pow_even s.natAbs (by omega)
    unfold fitsZ signZ
    generalize 256 ^ s.natAbs = q at *
    by_cases h3 : s < 0
    · rw [if_pos h3]
      intro hf
      simp only [decide_eq_true_eq] at hf
      by_cases h4 : 0 ≤ v
      · have : v % (q : Int) = v := Int.emod_eq_of_lt h4 (by omega)
        rw [if_neg (by omega)]; omega
      · have : v % (q : Int) = v + q := by
          rw [← Int.add_emod_right]
          exact Int.emod_eq_of_lt (by omega) (by omega)
        rw [if_pos (by omega)]; omega
    · rw [if_neg h3]
      intro hf
      simp only [decide_eq_true_eq] at hf
      have : v % (q : Int) = v := Int.emod_eq_of_lt hf.1 hf.2
      rw [if_neg (by omega)]; omega
theorem sign_inj {n n' : Nat} {s : Int} (h1 : n < 256 ^ s.natAbs) (h2 : n' < 256 ^ s.natAbs) (h : signZ n s = signZ n' s) : n = n' := by
  unfold signZ at h
  generalize 256 ^ s.natAbs = q at *
  split at h <;> split at h <;> omega
/-- The first so many fields, laid. -/
def payTo (l zs : List Int) (n : Nat) : Nat → List Nat
  | 0 => List.replicate n 0
  | k + 1 => putLE (payTo l zs n k) (zi l (2 * k)).toNat (zi zs k) (zi l (2 * k + 1)).natAbs
def fitsTo (l zs : List Int) : Nat → Bool
  | 0 => true
  | k + 1 => fitsTo l zs k && fitsZ (zi zs k) (zi l (2 * k + 1))
/-- What a message is written as: the payload, the error. -/
def ubxPay (c : Nat) (zs : List Int) : List Nat × Nat :=
  if (ubxLay c).1 = 0 then ([], 7) else if 2 * zs.length ≠ (ubxLay c).2.length then ([], 2) else if fitsTo (ubxLay c).2 zs zs.length = true then (payTo (ubxLay c).2 zs (ubxLay c).1 zs.length, 0) else ([], 2)
def ubxBody (c : Nat) (P : List Nat) : List Nat := [c / 256, c % 256, P.length % 256, P.length / 256] ++ P
def ubxFrame (c : Nat) (P : List Nat) : List Nat := [181, 98] ++ ubxBody c P ++ [fletA (ubxBody c P), fletB (ubxBody c P)]
def ubxEnc (c : Nat) (zs : List Int) : List Nat × Nat := if (ubxPay c zs).2 = 0 then (ubxFrame c (ubxPay c zs).1, 0) else ([], (ubxPay c zs).2)
theorem payTo_length (l zs : List Int) (n : Nat) : ∀ k, (payTo l zs n k).length = n
  | 0 => by simp [payTo]
  | k + 1 => by rw [payTo, putLE_length, payTo_length l zs n k]
/-- Fields in their order, in the payload. -/
structure LayOk (l : List Int) (n : Nat) : Prop where
  even : l.length % 2 = 0 ∧ l.length ≤ 24 ∧ n ≤ 92
  size : ∀ k, 2 * k + 1 < l.length → zi l (2 * k + 1) ≠ 0 ∧ (zi l (2 * k + 1)).natAbs ≤ 4
  in_ : ∀ k, 2 * k + 1 < l.length → 0 ≤ zi l (2 * k) ∧ (zi l (2 * k)).toNat + (zi l (2 * k + 1)).natAbs ≤ n
  rise : ∀ j k, j < k → 2 * k + 1 < l.length → (zi l (2 * j)).toNat + (zi l (2 * j + 1)).natAbs ≤ (zi l (2 * k)).toNat
def layB (l : List Int) (n : Nat) : Bool :=
  decide (l.length % 2 = 0) && decide (l.length ≤ 24) && decide (n ≤ 92) && (List.range 12).all fun k => decide (l.length ≤ 2 * k + 1) ||
    (decide (zi l (2 * k + 1) ≠ 0) && decide ((zi l (2 * k + 1)).natAbs ≤ 4) && decide (0 ≤ zi l (2 * k)) && decide ((zi l (2 * k)).toNat + (zi l (2 * k + 1)).natAbs ≤ n) &&
      (List.range k).all fun j => decide ((zi l (2 * j)).toNat + (zi l (2 * j + 1)).natAbs ≤ (zi l (2 * k)).toNat))
theorem lay_of {l : List Int} {n : Nat} (h : layB l n = true) : LayOk l n := by
  unfold layB at h
  simp only [Bool.and_eq_true, decide_eq_true_eq] at h
  obtain ⟨⟨⟨h1, h2⟩, h3⟩, h4⟩ := h
  have all : ∀ k, 2 * k + 1 < l.length → ((zi l (2 * k + 1) ≠ 0 ∧ (zi l (2 * k + 1)).natAbs ≤ 4) ∧ 0 ≤ zi l (2 * k)) ∧ (zi l (2 * k)).toNat + (zi l (2 * k + 1)).natAbs ≤ n ∧ ∀ j, j < k → (zi l (2 * j)).toNat + (zi l (2 * j + 1)).natAbs ≤ (zi l (2 * k)).toNat := fun k hk => by
    have := List.all_eq_true.1 h4 k (List.mem_range.2 (by omega))
    simp only [Bool.or_eq_true, Bool.and_eq_true, decide_eq_true_eq] at this
    rcases this with q | ⟨⟨⟨⟨a, b⟩, c⟩, d⟩, e⟩
    · omega
    · exact ⟨⟨⟨a, b⟩, c⟩, d, fun j hj => by simpa using List.all_eq_true.1 e j (List.mem_range.2 hj)⟩
  exact ⟨⟨h1, h2, h3⟩, fun k hk => (all k hk).1.1, fun k hk => ⟨(all k hk).1.2, (all k hk).2.1⟩, fun j k hj hk => (all k hk).2.2 j hj⟩
theorem ubx_layOk (c : Nat) : LayOk (ubxLay c).2 (ubxLay c).1 := by
  apply lay_of
  unfold ubxLay
  (repeat' split) <;> decide +kernel
theorem payTo_bytes {l zs : List Int} {n : Nat} (hl : LayOk l n) : ∀ k, 2 * k ≤ l.length → Bytes (payTo l zs n k)
  | 0, _ => fun i => by
    unfold payTo wd
    rw [List.getD_eq_getElem?_getD, List.getElem?_replicate]
    split <;> simp
  | k + 1, h => putLE_bytes (payTo_bytes hl k (by omega)) _ _ _ (by rw [payTo_length]; exact (hl.in_ k (by omega)).2)
/-- What is laid stands as it was laid. -/
theorem payTo_num {l zs : List Int} {n : Nat} (hl : LayOk l n) (j : Nat) : ∀ k, j < k → 2 * k ≤ l.length → (numLE (payTo l zs n k) (zi l (2 * j)).toNat (zi l (2 * j + 1)).natAbs : Int) = zi zs j % ((256 ^ (zi l (2 * j + 1)).natAbs : Nat) : Int)
  | 0, h, _ => absurd h (by omega)
  | k + 1, h, h2 => by
    have hin := hl.in_ k (by omega)
    by_cases e : j = k
    · subst e
      exact numLE_of (fun i hi => by rw [payTo]; exact putLE_at _ _ _ _ _ (by rw [payTo_length]; exact hin.2) hi)
    · have ih := payTo_num hl j k (by omega) (by omega) (zs := zs)
      rw [← ih]
      have hr := hl.rise j k (by omega) (by omega)
      refine congrArg _ (numLE_congr fun i hi => ?_)
      rw [payTo]
      exact putLE_other _ _ _ _ _ (by rw [payTo_length]; exact hin.2) (.inl (by omega))
theorem valsTo_at (S : List Nat) (l : List Int) (j : Nat) : ∀ k, j < k → zi (valsTo S l k) j = getZ S (zi l (2 * j)).toNat (zi l (2 * j + 1))
  | 0, h => absurd h (by omega)
  | k + 1, h => by
    rw [valsTo]
    unfold zi
    rw [List.getD_eq_getElem?_getD]
    by_cases e : j = k
    · subst e
      rw [List.getElem?_append_right (by rw [valsTo_length]; exact Nat.le_refl _), valsTo_length]
      simp
    · rw [List.getElem?_append_left (by rw [valsTo_length]; omega), ← List.getD_eq_getElem?_getD]
      exact valsTo_at S l j k (by omega)
theorem ext_zi {a b : List Int} (hl : a.length = b.length) (h : ∀ i, i < a.length → zi a i = zi b i) : a = b := by
  refine List.ext_getElem hl fun i h1 h2 => ?_
  have := h i h1
  rw [zi_lt h1, zi_lt h2] at this
  exact this
/-- What is read fits. -/
theorem vals_fit {l : List Int} {n : Nat} (hl : LayOk l n) {S : List Nat} (hB : Bytes S) (K : Nat) (hK : 2 * K ≤ l.length) : ∀ k, k ≤ K → fitsTo l (valsTo S l K) k = true
  | 0, _ => rfl
  | k + 1, h => by
    rw [fitsTo, vals_fit hl hB K hK k (by omega), valsTo_at S l k K (by omega), getZ_sign, Bool.true_and]
    exact sign_fits _ _ (numLE_lt S _ hB _) (hl.size k (by omega)).1
/-- What is written is read again. -/
theorem read_again {l zs : List Int} {n : Nat} (hl : LayOk l n) (hz : 2 * zs.length = l.length) (hf : ∀ k, k ≤ zs.length → fitsTo l zs k = true) : valsTo (payTo l zs n zs.length) l zs.length = zs := by
  refine ext_zi (valsTo_length _ _ _) fun j hj => ?_
  rw [valsTo_length] at hj
  rw [valsTo_at _ _ _ _ hj, getZ_sign]
  refine (sign_mod _ _ _ (hl.size j (by omega)).1 (payTo_num hl j zs.length hj (by omega))).2 ?_
  have := hf (j + 1) (by omega)
  rw [fitsTo, Bool.and_eq_true] at this
  exact this.2
theorem fitsTo_all {l zs : List Int} {K : Nat} (h : fitsTo l zs K = true) : ∀ k, k ≤ K → fitsTo l zs k = true := by
  induction K with
  | zero => intro k hk; obtain rfl : k = 0 := (by omega); exact h
  | succ K ih =>
    intro k hk
    have h' := h
    rw [fitsTo, Bool.and_eq_true] at h'
    by_cases e : k = K + 1
    · subst e; exact h
    · exact ih h'.1 k (by omega)
/-- Does a field stand at a place? -/
def inField (l : List Int) (t : Nat) : Nat → Bool
  | 0 => false
  | k + 1 => inField l t k || (decide ((zi l (2 * k)).toNat ≤ t) && decide (t < (zi l (2 * k)).toNat + (zi l (2 * k + 1)).natAbs))
theorem inField_iff (l : List Int) (t : Nat) : ∀ K, inField l t K = true ↔ ∃ k, k < K ∧ (zi l (2 * k)).toNat ≤ t ∧ t < (zi l (2 * k)).toNat + (zi l (2 * k + 1)).natAbs
  | 0 => by simp [inField]
  | K + 1 => by
    rw [inField, Bool.or_eq_true, inField_iff l t K, Bool.and_eq_true, decide_eq_true_eq, decide_eq_true_eq]
    constructor
    · rintro (⟨k, hk, h⟩ | h)
      · exact ⟨k, by omega, h⟩
      · exact ⟨K, by omega, h⟩
    · rintro ⟨k, hk, h⟩
      by_cases e : k = K
      · subst e; exact .inr h
      · exact .inl ⟨k, by omega, h⟩
theorem numLE_other {S T : List Nat} {p t : Nat} (hS : Bytes S) (hT : Bytes T) (hsame : ∀ i, i ≠ t → wd S i = wd T i) (hne : wd S t ≠ wd T t) : ∀ k, p ≤ t → t < p + k → numLE S p k ≠ numLE T p k
  | 0, _, h => absurd h (by omega)
  | k + 1, hp, h => by
    intro e
    rw [numLE, numLE] at e
    by_cases q : t = p + k
    · subst q
      rw [numLE_congr (fun i hi => hsame (p + i) (by omega))] at e
      have hpos : 0 < 256 ^ k := Nat.pow_pos (by decide)
      exact hne (Nat.eq_of_mul_eq_mul_right hpos (by omega))
    · rw [hsame (p + k) (by omega)] at e
      exact numLE_other hS hT hsame hne k hp (by omega) (by omega)
/-- Another byte makes another message just where a field stands. -/
theorem other_byte {l : List Int} {n : Nat} (hl : LayOk l n) {S : List Nat} (hB : Bytes S) (t x : Nat) (ht : t < S.length) (hx : x < 256) (hne : x ≠ wd S t) (K : Nat) (hK : 2 * K ≤ l.length) :
    decide (valsTo S l K = valsTo (S.set t x) l K) = !(inField l t K) := by
  have hB' := hB.set t x ht hx
  have hs : ∀ i, i ≠ t → wd S i = wd (S.set t x) i := fun i hi => by rw [wd_set _ _ _ _ ht, if_neg hi]
  have hn : wd S t ≠ wd (S.set t x) t := by rw [wd_set _ _ _ _ ht, if_pos rfl]; exact hne.symm
  by_cases h : inField l t K = true
  · rw [h]
    obtain ⟨k, hk, h1, h2⟩ := (inField_iff l t K).1 h
    refine decide_eq_false fun e => ?_
    have e1 := congrArg (fun z => zi z k) e
    simp only [valsTo_at _ _ _ _ hk, getZ_sign] at e1
    exact numLE_other hB hB' hs hn _ h1 h2 (sign_inj (numLE_lt S _ hB _) (numLE_lt _ _ hB' _) e1)
  · have h' : inField l t K = false := by simpa using h
    rw [h']
    refine decide_eq_true (ext_zi (by rw [valsTo_length, valsTo_length]) fun j hj => ?_)
    rw [valsTo_length] at hj
    rw [valsTo_at _ _ _ _ hj, valsTo_at _ _ _ _ hj, getZ_sign, getZ_sign]
    refine congrArg (fun n => signZ n _) (numLE_congr fun i hi => hs _ (fun e => h ((inField_iff l t K).2 ⟨j, hj, by omega, by omega⟩)))
end Go.Proofs.Ytcdmbnbanopioaa

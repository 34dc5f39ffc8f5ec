/-
  SiRF messages as plain lists: kinds, fields, values read and written, highest byte first. Nothing of the program.
-/
import Derived.Test.YtcdmbnbanopioaaUbxN
namespace Go.Proofs.Ytcdmbnbanopioaa
open Go.RowKit
set_option linter.unusedVariables false

/-- A kind's length, and its fields: place, bytes (below 0: signed), side by side. -/
def srfLay (m : Nat) : Nat × List Int :=
  if m = 2 then (41, [1, -4, 5, -4, 9, -4, 13, -2, 15, -2, 17, -2, 19, 1, 20, 1, 21, 1, 22, 2, 24, 4, 28, 1])
  else if m = 4 then (188, [1, -2, 3, 4, 7, 1])
  else if m = 7 then (20, [1, 2, 3, 4, 7, 1, 8, 4, 12, 4, 16, 4])
  else if m = 41 then (91, [1, 2, 3, 2, 5, 2, 7, 4, 11, 2, 13, 1, 14, 1, 15, 1, 16, 1, 17, 2])
  else if m = 52 then (19, [1, 1, 2, 1, 3, 1, 4, 1, 5, 1, 6, 2, 8, -2, 10, 4, 14, 1])
  else if m = 11 then (2, [1, 1])
  else if m = 12 then (2, [1, 1])
  else if m = 166 then (8, [1, 1, 2, 1, 3, 1])
  else (0, [])
/-- The m bytes from place p on, the other way round: from the k-th from the end. -/
def turnTo (S : List Nat) (p m : Nat) : Nat → List Nat
  | 0 => []
  | k + 1 => turnTo S p m k ++ [wd S (p + (m - 1 - k))]
theorem turnTo_length (S : List Nat) (p m : Nat) : ∀ k, (turnTo S p m k).length = k
  | 0 => rfl
  | k + 1 => by rw [turnTo, List.length_append, turnTo_length S p m k]; rfl
theorem turnTo_wd (S : List Nat) (p m j : Nat) : ∀ k, j < k → wd (turnTo S p m k) j = wd S (p + (m - 1 - j))
  | 0, h => absurd h (by omega)
  | k + 1, h => by
    rw [turnTo]
    by_cases e : j = k
    · subst e
      have h := wd_append_right (ns := turnTo S p m j) (ms := [wd S (p + (m - 1 - j))]) (i := 0)
      rw [turnTo_length] at h
      exact h
    · rw [wd_append_left (by rw [turnTo_length]; omega)]
      exact turnTo_wd S p m j k (by omega)
theorem turnTo_bytes {S : List Nat} (hB : Bytes S) (p m : Nat) : ∀ k, Bytes (turnTo S p m k)
  | 0 => Bytes.of_mem (by simp [turnTo])
  | k + 1 => fun i => by
    by_cases h : i < k
    · rw [turnTo_wd S p m i (k + 1) (by omega)]; exact hB _
    · by_cases e : i = k
      · rw [turnTo_wd S p m i (k + 1) (by omega)]; exact hB _
      · rw [wd_ge (by rw [turnTo_length]; omega)]; omega
/-- A field's value. -/
def getB (S : List Nat) (p : Nat) (s : Int) : Int := getZ (turnTo S p s.natAbs s.natAbs) 0 s
/-- The values of the first so many fields. -/
def bvalsTo (S : List Nat) (l : List Int) : Nat → List Int
  | 0 => []
  | k + 1 => bvalsTo S l k ++ [getB S (zi l (2 * k)).toNat (zi l (2 * k + 1))]
theorem bvalsTo_length (S : List Nat) (l : List Int) : ∀ k, (bvalsTo S l k).length = k
  | 0 => rfl
  | k + 1 => by rw [bvalsTo, List.length_append, bvalsTo_length S l k]; rfl
/-- What a payload tells: its kind, the values, the error. -/
def srfDec (S : List Nat) : Nat × List Int × Nat :=
  if S.length = 0 then (0, [], 4) else if (srfLay (wd S 0)).1 = 0 then (0, [], 7) else if S.length ≠ (srfLay (wd S 0)).1 then (0, [], 5) else (wd S 0, bvalsTo S (srfLay (wd S 0)).2 ((srfLay (wd S 0)).2.length / 2), 0)
/-- The k lowest bytes of a number, laid from the end of the m bytes at a place on. -/
def putBE (L : List Nat) (p m : Nat) (v : Int) : Nat → List Nat
  | 0 => L
  | k + 1 => (putBE L p m v k).set (p + (m - 1 - k)) (byteZ v k)
theorem putBE_length (L : List Nat) (p m : Nat) (v : Int) : ∀ k, (putBE L p m v k).length = L.length
  | 0 => rfl
  | k + 1 => by rw [putBE, List.length_set, putBE_length L p m v k]
theorem putBE_other (L : List Nat) (p m : Nat) (v : Int) (i : Nat) : ∀ k, k ≤ m → p + m ≤ L.length → (i < p ∨ p + m ≤ i) → wd (putBE L p m v k) i = wd L i
  | 0, _, _, _ => rfl
  | k + 1, hk, hl, h => by
    rw [putBE, wd_set _ _ _ _ (by rw [putBE_length]; omega), if_neg (by omega)]
    exact putBE_other L p m v i k (by omega) hl h
theorem putBE_at (L : List Nat) (p m : Nat) (v : Int) (j : Nat) : ∀ k, k ≤ m → p + m ≤ L.length → j < k → wd (putBE L p m v k) (p + (m - 1 - j)) = byteZ v j
  | 0, _, _, h => absurd h (by omega)
  | k + 1, hk, hl, h => by
    rw [putBE, wd_set _ _ _ _ (by rw [putBE_length]; omega)]
    by_cases e : j = k
    · subst e; rw [if_pos rfl]
    · rw [if_neg (by omega)]
      exact putBE_at L p m v j k (by omega) hl (by omega)
theorem putBE_bytes {L : List Nat} (hB : Bytes L) (p m : Nat) (v : Int) : ∀ k, k ≤ m → p + m ≤ L.length → Bytes (putBE L p m v k)
  | 0, _, _ => hB
  | k + 1, hk, h => (putBE_bytes hB p m v k (by omega) h).set _ _ (by rw [putBE_length]; omega) (byteZ_lt v k)
/-- The kind, then the first so many fields, laid. -/
def bpayTo (m : Nat) (l zs : List Int) (n : Nat) : Nat → List Nat
  | 0 => (List.replicate n 0).set 0 m
  | k + 1 => putBE (bpayTo m l zs n k) (zi l (2 * k)).toNat (zi l (2 * k + 1)).natAbs (zi zs k) (zi l (2 * k + 1)).natAbs
theorem bpayTo_length (m : Nat) (l zs : List Int) (n : Nat) : ∀ k, (bpayTo m l zs n k).length = n
  | 0 => by simp [bpayTo]
  | k + 1 => by rw [bpayTo, putBE_length, bpayTo_length m l zs n k]
/-- What a message is written as: the payload, the error. -/
def srfPay (m : Nat) (zs : List Int) : List Nat × Nat :=
  if (srfLay m).1 = 0 then ([], 7) else if 2 * zs.length ≠ (srfLay m).2.length then ([], 2) else if fitsTo (srfLay m).2 zs zs.length = true then (bpayTo m (srfLay m).2 zs (srfLay m).1 zs.length, 0) else ([], 2)
def srfFrame (P : List Nat) : List Nat := [160, 162, P.length / 256, P.length % 256] ++ P ++ [fifOf P / 256, fifOf P % 256, 176, 179]
def srfEnc (m : Nat) (zs : List Int) : List Nat × Nat := if (srfPay m zs).2 = 0 then (srfFrame (srfPay m zs).1, 0) else ([], (srfPay m zs).2)
/-- Fields in their order behind the first byte, in the payload. -/
structure BLayOk (l : List Int) (n : Nat) : Prop where
  even : l.length % 2 = 0 ∧ l.length ≤ 24 ∧ n ≤ 188
  size : ∀ k, 2 * k + 1 < l.length → zi l (2 * k + 1) ≠ 0 ∧ (zi l (2 * k + 1)).natAbs ≤ 4
  in_ : ∀ k, 2 * k + 1 < l.length → 1 ≤ zi l (2 * k) ∧ (zi l (2 * k)).toNat + (zi l (2 * k + 1)).natAbs ≤ n
  rise : ∀ j k, j < k → 2 * k + 1 < l.length → (zi l (2 * j)).toNat + (zi l (2 * j + 1)).natAbs ≤ (zi l (2 * k)).toNat
def blayB (l : List Int) (n : Nat) : Bool :=
  decide (l.length % 2 = 0) && decide (l.length ≤ 24) && decide (n ≤ 188) && (List.range 12).all fun k => decide (l.length ≤ 2 * k + 1) ||
    (decide (zi l (2 * k + 1) ≠ 0) && decide ((zi l (2 * k + 1)).natAbs ≤ 4) && decide (1 ≤ zi l (2 * k)) && decide ((zi l (2 * k)).toNat + (zi l (2 * k + 1)).natAbs ≤ n) &&
      (List.range k).all fun j => decide ((zi l (2 * j)).toNat + (zi l (2 * j + 1)).natAbs ≤ (zi l (2 * k)).toNat))
theorem blay_of {l : List Int} {n : Nat} (h : blayB l n = true) : BLayOk l n := by
  unfold blayB at h
  simp only [Bool.and_eq_true, decide_eq_true_eq] at h
  obtain ⟨⟨⟨h1, h2⟩, h3⟩, h4⟩ := h
  have all : ∀ k, 2 * k + 1 < l.length → ((zi l (2 * k + 1) ≠ 0 ∧ (zi l (2 * k + 1)).natAbs ≤ 4) ∧ 1 ≤ zi l (2 * k)) ∧ (zi l (2 * k)).toNat + (zi l (2 * k + 1)).natAbs ≤ n ∧ ∀ j, j < k → (zi l (2 * j)).toNat + (zi l (2 * j + 1)).natAbs ≤ (zi l (2 * k)).toNat := fun k hk => by
    have := List.all_eq_true.1 h4 k (List.mem_range.2 (by omega))
    simp only [Bool.or_eq_true, Bool.and_eq_true, decide_eq_true_eq] at this
    rcases this with q | ⟨⟨⟨⟨a, b⟩, c⟩, d⟩, e⟩
    · omega
    · exact ⟨⟨⟨a, b⟩, c⟩, d, fun j hj => by simpa using List.all_eq_true.1 e j (List.mem_range.2 hj)⟩
  exact ⟨⟨h1, h2, h3⟩, fun k hk => (all k hk).1.1, fun k hk => ⟨(all k hk).1.2, (all k hk).2.1⟩, fun j k hj hk => (all k hk).2.2 j hj⟩
theorem srf_layOk (m : Nat) : BLayOk (srfLay m).2 (srfLay m).1 := by
  apply blay_of
  unfold srfLay
  (repeat' split) <;> decide +kernel
theorem bpayTo_bytes {m : Nat} (hm : m < 256) {l zs : List Int} {n : Nat} (hl : BLayOk l n) : ∀ k, 2 * k ≤ l.length → Bytes (bpayTo m l zs n k)
  | 0, _ => by
    have h0 : Bytes (List.replicate n 0) := fun i => by
      unfold wd
      rw [List.getD_eq_getElem?_getD, List.getElem?_replicate]
      split <;> simp
    by_cases hn : 0 < n
    · exact h0.set 0 m (by simpa using hn) hm
    · obtain rfl : n = 0 := by omega
      exact Bytes.of_mem (by simp [bpayTo])
  | k + 1, h => putBE_bytes (bpayTo_bytes hm hl k (by omega)) _ _ _ _ (Nat.le_refl _) (by rw [bpayTo_length]; exact (hl.in_ k (by omega)).2)
theorem turn_congr {S T : List Nat} {p m : Nat} : ∀ {k : Nat}, k ≤ m → (∀ i, i < m → wd S (p + i) = wd T (p + i)) → turnTo S p m k = turnTo T p m k
  | 0, _, _ => rfl
  | k + 1, hk, h => by rw [turnTo, turnTo, turn_congr (by omega) h, h (m - 1 - k) (by omega)]
/-- What is laid stands as it was laid. -/
theorem bpayTo_num {m : Nat} {l zs : List Int} {n : Nat} (hl : BLayOk l n) (j : Nat) : ∀ k, j < k → 2 * k ≤ l.length →
    (numLE (turnTo (bpayTo m l zs n k) (zi l (2 * j)).toNat (zi l (2 * j + 1)).natAbs (zi l (2 * j + 1)).natAbs) 0 (zi l (2 * j + 1)).natAbs : Int) = zi zs j % ((256 ^ (zi l (2 * j + 1)).natAbs : Nat) : Int)
  | 0, h, _ => absurd h (by omega)
  | k + 1, h, h2 => by
    have hin := hl.in_ k (by omega)
    by_cases e : j = k
    · subst e
      refine numLE_of (fun i hi => ?_)
      rw [Nat.zero_add, turnTo_wd _ _ _ _ _ hi, bpayTo]
      exact putBE_at _ _ _ _ _ _ (Nat.le_refl _) (by rw [bpayTo_length]; exact hin.2) hi
    · have ih := bpayTo_num (m := m) hl j k (by omega) (by omega) (zs := zs)
      rw [← ih]
      have hr := hl.rise j k (by omega) (by omega)
      rw [turn_congr (T := bpayTo m l zs n k) (Nat.le_refl _) (fun i hi => ?_)]
      rw [bpayTo]
      exact putBE_other _ _ _ _ _ _ (Nat.le_refl _) (by rw [bpayTo_length]; exact hin.2) (.inl (by omega))
theorem bvalsTo_at (S : List Nat) (l : List Int) (j : Nat) : ∀ k, j < k → zi (bvalsTo S l k) j = getB S (zi l (2 * j)).toNat (zi l (2 * j + 1))
  | 0, h => absurd h (by omega)
  | k + 1, h => by
    rw [bvalsTo]
    unfold zi
    rw [List.getD_eq_getElem?_getD]
    by_cases e : j = k
    · subst e
      rw [List.getElem?_append_right (by rw [bvalsTo_length]; exact Nat.le_refl _), bvalsTo_length]
      simp
    · rw [List.getElem?_append_left (by rw [bvalsTo_length]; omega), ← List.getD_eq_getElem?_getD]
      exact bvalsTo_at S l j k (by omega)
theorem getB_sign (S : List Nat) (p : Nat) (s : Int) : getB S p s = signZ (numLE (turnTo S p s.natAbs s.natAbs) 0 s.natAbs) s := rfl
/-- What is read fits. -/
theorem bvals_fit {l : List Int} {n : Nat} (hl : BLayOk l n) {S : List Nat} (hB : Bytes S) (K : Nat) (hK : 2 * K ≤ l.length) : ∀ k, k ≤ K → fitsTo l (bvalsTo S l K) k = true
  | 0, _ => rfl
  | k + 1, h => by
    rw [fitsTo, bvals_fit hl hB K hK k (by omega), bvalsTo_at S l k K (by omega), getB_sign, Bool.true_and]
    exact sign_fits _ _ (numLE_lt _ _ (turnTo_bytes hB _ _ _) _) (hl.size k (by omega)).1
/-- What is written is read again. -/
theorem bread_again {m : Nat} {l zs : List Int} {n : Nat} (hl : BLayOk l n) (hz : 2 * zs.length = l.length) (hf : ∀ k, k ≤ zs.length → fitsTo l zs k = true) : bvalsTo (bpayTo m l zs n zs.length) l zs.length = zs := by
  refine ext_zi (bvalsTo_length _ _ _) fun j hj => ?_
  rw [bvalsTo_length] at hj
  rw [bvalsTo_at _ _ _ _ hj, getB_sign]
  refine (sign_mod _ _ _ (hl.size j (by omega)).1 (bpayTo_num hl j zs.length hj (by omega))).2 ?_
  have := hf (j + 1) (by omega)
  rw [fitsTo, Bool.and_eq_true] at this
  exact this.2
/-- The kind stands at the first place. -/
theorem bpayTo_kind {m : Nat} {l zs : List Int} {n : Nat} (hl : BLayOk l n) (hn : 0 < n) : ∀ k, 2 * k ≤ l.length → wd (bpayTo m l zs n k) 0 = m
  | 0, _ => by rw [bpayTo, wd_set _ _ _ _ (by simpa using hn), if_pos rfl]
  | k + 1, h => by
    have hin := hl.in_ k (by omega)
    rw [bpayTo, putBE_other _ _ _ _ _ _ (Nat.le_refl _) (by rw [bpayTo_length]; exact hin.2) (.inl (by omega))]
    exact bpayTo_kind hl hn k (by omega)
/-- Another byte behind the first one makes another message just where a field stands. -/
theorem bother_byte {l : List Int} {n : Nat} (hl : BLayOk l n) {S : List Nat} (hB : Bytes S) (t x : Nat) (ht : t < S.length) (hx : x < 256) (hne : x ≠ wd S t) (K : Nat) (hK : 2 * K ≤ l.length) :
    decide (bvalsTo S l K = bvalsTo (S.set t x) l K) = !(inField l t K) := by
  have hB' := hB.set t x ht hx
  have hs : ∀ i, i ≠ t → wd S i = wd (S.set t x) i := fun i hi => by rw [wd_set _ _ _ _ ht, if_neg hi]
  have hn : wd S t ≠ wd (S.set t x) t := by rw [wd_set _ _ _ _ ht, if_pos rfl]; exact hne.symm
  by_cases h : inField l t K = true
  · rw [h]
    obtain ⟨k, hk, h1, h2⟩ := (inField_iff l t K).1 h
    refine decide_eq_false fun e => ?_
    have e1 := congrArg (fun z => zi z k) e
    simp only [bvalsTo_at _ _ _ _ hk, getB_sign] at e1
    have e2 := sign_inj (numLE_lt _ _ (turnTo_bytes hB _ _ _) _) (numLE_lt _ _ (turnTo_bytes hB' _ _ _) _) e1
    generalize (zi l (2 * k)).toNat = p at *
    generalize (zi l (2 * k + 1)).natAbs = m at *
    refine numLE_other (t := m - 1 - (t - p)) (turnTo_bytes hB _ _ _) (turnTo_bytes hB' _ _ _) (fun i hi => ?_) ?_ m (by omega) (by omega) e2
    · by_cases hm : i < m
      · rw [turnTo_wd _ _ _ _ _ hm, turnTo_wd _ _ _ _ _ hm]
        exact hs _ (by omega)
      · rw [wd_ge (by rw [turnTo_length]; omega), wd_ge (by rw [turnTo_length]; omega)]
    · rw [turnTo_wd _ _ _ _ _ (by omega), turnTo_wd _ _ _ _ _ (by omega), show p + (m - 1 - (m - 1 - (t - p))) = t by omega]
      exact hn
  · have h' : inField l t K = false := by simpa using h
    rw [h']
    refine decide_eq_true (ext_zi (by rw [bvalsTo_length, bvalsTo_length]) fun j hj => ?_)
    rw [bvalsTo_length] at hj
    rw [bvalsTo_at _ _ _ _ hj, bvalsTo_at _ _ _ _ hj, getB_sign, getB_sign]
    have hno : ¬ ((zi l (2 * j)).toNat ≤ t ∧ t < (zi l (2 * j)).toNat + (zi l (2 * j + 1)).natAbs) := fun q => h ((inField_iff l t K).2 ⟨j, hj, q.1, q.2⟩)
    rw [turn_congr (T := S.set t x) (Nat.le_refl _) (fun i hi => hs _ (by omega))]
end Go.Proofs.Ytcdmbnbanopioaa

/-
  The laws of UBX messages: what a payload that is read gives back. Nothing of the program.
-/
import Derived.Test.YtaaphnlkfmaeeaaUblB
namespace Go.Proofs.Ytaaphnlkfmaeeaa
open Go.RowKit
set_option linter.unusedVariables false

theorem sign_bounds (n : Nat) (s : Int) (h : n < 256 ^ s.natAbs) (hs : s.natAbs ≤ 4) : -9223372036854775808 ≤ signZ n s ∧ signZ n s ≤ 9223372036854775807 := by
  have hp := pow_le4 s.natAbs hs
  unfold signZ
  generalize 256 ^ s.natAbs = q at *
  split <;> omega
theorem vals_in64 {l : List Int} {n : Nat} (hl : LayOk l n) {S : List Nat} (hB : Bytes S) (K : Nat) (hK : 2 * K ≤ l.length) : In64 (valsTo S l K) := fun i => by
  by_cases hi : i < K
  · rw [valsTo_at S l i K hi, getZ_sign]
    exact sign_bounds _ _ (numLE_lt S _ hB _) (hl.size i (by omega)).2
  · unfold zi
    rw [List.getD_eq_getElem?_getD, List.getElem?_eq_none (by rw [valsTo_length]; omega)]
    simp
theorem dec_ok {c : Nat} {S : List Nat} (h : (ubxDec c S).2 = 0) : (ubxLay c).1 ≠ 0 ∧ S.length = (ubxLay c).1 ∧ ubxDec c S = (valsTo S (ubxLay c).2 ((ubxLay c).2.length / 2), 0) := by
  unfold ubxDec at h ⊢
  by_cases h1 : (ubxLay c).1 = 0
  · rw [if_pos h1] at h; exact absurd h (by decide)
  · rw [if_neg h1] at h ⊢
    by_cases h2 : S.length ≠ (ubxLay c).1
    · rw [if_pos h2] at h; exact absurd h (by decide)
    · rw [if_neg h2]
      exact ⟨h1, by omega, rfl⟩
theorem dec_err {c : Nat} {S : List Nat} (h : (ubxDec c S).2 ≠ 0) : (ubxDec c S).1 = [] := by
  unfold ubxDec at h ⊢
  by_cases h1 : (ubxLay c).1 = 0
  · rw [if_pos h1]
  · rw [if_neg h1] at h ⊢
    by_cases h2 : S.length ≠ (ubxLay c).1
    · rw [if_pos h2]
    · rw [if_neg h2] at h; exact absurd rfl h
theorem dec_of {c : Nat} {S : List Nat} (h1 : (ubxLay c).1 ≠ 0) (h2 : S.length = (ubxLay c).1) : ubxDec c S = (valsTo S (ubxLay c).2 ((ubxLay c).2.length / 2), 0) := by
  unfold ubxDec
  rw [if_neg h1, if_neg (by omega)]
/-- What a payload that is read gives back. -/
structure Back (c : Nat) (S : List Nat) (zs : List Int) (P : List Nat) : Prop where
  dec : ubxDec c S = (zs, 0)
  pay : ubxPay c zs = (P, 0)
  enc : ubxEnc c zs = (ubxFrame c P, 0)
  again : ubxDec c P = (zs, 0)
  len : P.length = S.length
  bytes : Bytes P
  pos : 0 < S.length
  lay : (ubxLay c).1 = S.length
  in64 : In64 zs
  few : zs.length ≤ 12
  other : ∀ t x, t < S.length → x < 256 → x ≠ wd S t → ∃ ys, ubxDec c (S.set t x) = (ys, 0) ∧ decide (zs = ys) = !(inField (ubxLay c).2 t ((ubxLay c).2.length / 2)) ∧ ys.length ≤ 12
theorem back_of {c : Nat} {S : List Nat} (hB : Bytes S) (h : (ubxDec c S).2 = 0) : ∃ zs P, Back c S zs P := by
  obtain ⟨h1, h2, h3⟩ := dec_ok h
  have hok := ubx_layOk c
  have hev := hok.even
  obtain ⟨K, hK⟩ : ∃ K, (ubxLay c).2.length / 2 = K := ⟨_, rfl⟩
  rw [hK] at h3
  have h2K : 2 * K = (ubxLay c).2.length := by omega
  have hzl := valsTo_length S (ubxLay c).2 K
  have hfit := vals_fit hok hB K (by omega) K (Nat.le_refl _)
  have hpay : ubxPay c (valsTo S (ubxLay c).2 K) = (payTo (ubxLay c).2 (valsTo S (ubxLay c).2 K) (ubxLay c).1 K, 0) := by
    unfold ubxPay
    rw [if_neg h1, hzl, if_neg (by omega), if_pos hfit]
  have hagain := read_again hok (zs := valsTo S (ubxLay c).2 K) (by rw [hzl]; omega) (fun k hk => fitsTo_all (by rw [hzl]; exact hfit) k hk)
  rw [hzl] at hagain
  refine ⟨valsTo S (ubxLay c).2 K, payTo (ubxLay c).2 (valsTo S (ubxLay c).2 K) (ubxLay c).1 K, h3, hpay, ?_, ?_, by rw [payTo_length]; exact h2.symm, payTo_bytes hok K (by omega), by omega, h2.symm, vals_in64 hok hB K (by omega), by rw [hzl]; omega, fun t x ht hx hne => ⟨valsTo (S.set t x) (ubxLay c).2 K, ?_, ?_, by rw [valsTo_length]; omega⟩⟩
  · unfold ubxEnc
    rw [hpay]
    rfl
  · rw [dec_of h1 (by rw [payTo_length]), hK, hagain]
  · rw [dec_of h1 (by rw [List.length_set]; exact h2), hK]
  · rw [hK]
    exact other_byte hok hB t x ht hx hne K (by omega)
theorem frame_length (c : Nat) (P : List Nat) : (ubxFrame c P).length = P.length + 8 := by
  unfold ubxFrame ubxBody
  simp
theorem frame_mid (c : Nat) (P : List Nat) : ((ubxFrame c P).drop 6).take P.length = P := by
  have e : (ubxFrame c P).drop 6 = P ++ [fletA (ubxBody c P), fletB (ubxBody c P)] := by
    unfold ubxFrame ubxBody
    rfl
  rw [e, List.take_left']
  rfl
theorem Row.midU {w : World} {b o n c m : Nat} {ns : List Nat} (h : Row .u8 w (.slice (some ⟨b, o, none⟩) n c) ns) (j : Nat) (hj : j + m ≤ ns.length) : Row .u8 w (.slice (some ⟨b, o + j, none⟩) m (c - j)) ((ns.drop j).take m) := by
  obtain ⟨A', c', e, hc, hr⟩ := h
  simp only [Value.slice.injEq] at e
  obtain ⟨rfl, rfl, rfl⟩ := e
  have hl : ((ns.drop j).take m).length = m := by rw [List.length_take, List.length_drop]; omega
  refine ⟨_, _, by rw [hl], by rw [hl]; omega, fun hp => ?_⟩
  rw [hl] at hp
  obtain ⟨b', o', e2, hb, hcell⟩ := hr (by omega)
  cases e2
  refine ⟨b, o + j, rfl, hb, fun i hi => ?_⟩
  rw [hl] at hi
  rw [show o + j + i = o + (j + i) by omega, hcell (j + i) (by omega)]
  unfold wd
  rw [List.getD_eq_getElem?_getD, List.getD_eq_getElem?_getD, List.getElem?_take, if_pos hi, List.getElem?_drop]
end Go.Proofs.Ytaaphnlkfmaeeaa

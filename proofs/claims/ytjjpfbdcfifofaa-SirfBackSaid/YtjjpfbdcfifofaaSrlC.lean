/-
  The laws of SiRF messages: what a payload that is read gives back; written and read again. The program's calls are handed in.
-/
import Derived.Test.YtjjpfbdcfifofaaSrlB
namespace Go.Proofs.Ytjjpfbdcfifofaa
open Go.RowKit
set_option linter.unusedVariables false

theorem sign_boundsS (n : Nat) (s : Int) (h : n < 256 ^ s.natAbs) (hs : s.natAbs ≤ 4) : -9223372036854775808 ≤ signZ n s ∧ signZ n s ≤ 9223372036854775807 := by
  have hp := pow_le4 s.natAbs hs
  unfold signZ
  generalize 256 ^ s.natAbs = q at *
  split <;> omega
theorem bvals_in64 {l : List Int} {n : Nat} (hl : BLayOk l n) {S : List Nat} (hB : Bytes S) (K : Nat) (hK : 2 * K ≤ l.length) : I64 (bvalsTo S l K) := fun i => by
  by_cases hi : i < K
  · rw [bvalsTo_at S l i K hi, getB_sign]
    exact sign_boundsS _ _ (numLE_lt _ _ (turnTo_bytes hB _ _ _) _) (hl.size i (by omega)).2
  · unfold zi
    rw [List.getD_eq_getElem?_getD, List.getElem?_eq_none (by rw [bvalsTo_length]; omega)]
    simp
theorem srf_two (m : Nat) (h : (srfLay m).1 ≠ 0) : 2 ≤ (srfLay m).1 := by
  by_cases q : isSrf m
  · unfold isSrf at q
    rcases q with rfl | rfl | rfl | rfl | rfl | rfl | rfl | rfl <;> decide
  · rw [srf_no q] at h
    exact absurd rfl h
theorem sdec_of {S : List Nat} (h0 : S.length ≠ 0) (h1 : (srfLay (wd S 0)).1 ≠ 0) (h2 : S.length = (srfLay (wd S 0)).1) : srfDec S = (wd S 0, bvalsTo S (srfLay (wd S 0)).2 ((srfLay (wd S 0)).2.length / 2), 0) := by
  unfold srfDec
  rw [if_neg h0, if_neg h1, if_neg (by omega)]
theorem sdec_ok {S : List Nat} (h : (srfDec S).2.2 = 0) : S.length ≠ 0 ∧ (srfLay (wd S 0)).1 ≠ 0 ∧ S.length = (srfLay (wd S 0)).1 := by
  unfold srfDec at h
  by_cases h0 : S.length = 0
  · rw [if_pos h0] at h; exact absurd h (by decide)
  · rw [if_neg h0] at h
    by_cases h1 : (srfLay (wd S 0)).1 = 0
    · rw [if_pos h1] at h; exact absurd h (by decide)
    · rw [if_neg h1] at h
      by_cases h2 : S.length ≠ (srfLay (wd S 0)).1
      · rw [if_pos h2] at h; exact absurd h (by decide)
      · exact ⟨h0, h1, by omega⟩
theorem sdec_err {S : List Nat} (h : (srfDec S).2.2 ≠ 0) : (srfDec S).1 = 0 ∧ (srfDec S).2.1 = [] := by
  unfold srfDec at h ⊢
  by_cases h0 : S.length = 0
  · rw [if_pos h0]; exact ⟨rfl, rfl⟩
  · rw [if_neg h0] at h ⊢
    by_cases h1 : (srfLay (wd S 0)).1 = 0
    · rw [if_pos h1]; exact ⟨rfl, rfl⟩
    · rw [if_neg h1] at h ⊢
      by_cases h2 : S.length ≠ (srfLay (wd S 0)).1
      · rw [if_pos h2]; exact ⟨rfl, rfl⟩
      · rw [if_neg h2] at h; exact absurd rfl h
/-- What a payload that is read gives back. -/
structure SBack (S : List Nat) (M : Nat) (zs : List Int) (P : List Nat) : Prop where
  kind : wd S 0 = M
  small : M < 256
  dec : srfDec S = (M, zs, 0)
  pay : srfPay M zs = (P, 0)
  enc : srfEnc M zs = (srfFrame P, 0)
  again : srfDec P = (M, zs, 0)
  len : P.length = S.length
  bytes : Bytes P
  pos : 2 ≤ S.length
  lay : (srfLay M).1 = S.length
  in64 : I64 zs
  few : zs.length ≤ 12
  other : ∀ t x, 1 ≤ t → t < S.length → x < 256 → x ≠ wd S t → ∃ ys, srfDec (S.set t x) = (M, ys, 0) ∧ decide (zs = ys) = !(inField (srfLay M).2 t ((srfLay M).2.length / 2)) ∧ ys.length ≤ 12
theorem sback_of {S : List Nat} (hB : Bytes S) (h : (srfDec S).2.2 = 0) : ∃ M zs P, SBack S M zs P := by
  obtain ⟨h0, h1, h2⟩ := sdec_ok h
  have h3 := sdec_of h0 h1 h2
  have hm := hB 0
  obtain ⟨M, hM⟩ : ∃ M, wd S 0 = M := ⟨_, rfl⟩
  rw [hM] at h1 h2 h3 hm
  have hok := srf_layOk M
  have hev := hok.even
  have h2n := srf_two M h1
  obtain ⟨K, hK⟩ : ∃ K, (srfLay M).2.length / 2 = K := ⟨_, rfl⟩
  rw [hK] at h3
  have h2K : 2 * K = (srfLay M).2.length := by omega
  have hzl := bvalsTo_length S (srfLay M).2 K
  have hfit := bvals_fit hok hB K (by omega) K (Nat.le_refl _)
  have hpay : srfPay M (bvalsTo S (srfLay M).2 K) = (bpayTo M (srfLay M).2 (bvalsTo S (srfLay M).2 K) (srfLay M).1 K, 0) := by
    unfold srfPay
    rw [if_neg h1, hzl, if_neg (by omega), if_pos hfit]
  have hagain := bread_again (m := M) hok (zs := bvalsTo S (srfLay M).2 K) (by rw [hzl]; omega) (fun k hk => fitsTo_all (by rw [hzl]; exact hfit) k hk)
  rw [hzl] at hagain
  have hkind := bpayTo_kind (m := M) (zs := bvalsTo S (srfLay M).2 K) hok (by omega) K (by omega)
  refine ⟨M, bvalsTo S (srfLay M).2 K, bpayTo M (srfLay M).2 (bvalsTo S (srfLay M).2 K) (srfLay M).1 K, hM, hm, h3, hpay, ?_, ?_, by rw [bpayTo_length]; exact h2.symm, bpayTo_bytes hm hok K (by omega), by omega, h2.symm, bvals_in64 hok hB K (by omega), by rw [hzl]; omega, fun t x ht1 ht hx hne => ⟨bvalsTo (S.set t x) (srfLay M).2 K, ?_, ?_, by rw [bvalsTo_length]; omega⟩⟩
  · unfold srfEnc
    rw [hpay]
    rfl
  · have := sdec_of (S := bpayTo M (srfLay M).2 (bvalsTo S (srfLay M).2 K) (srfLay M).1 K) (by rw [bpayTo_length]; omega) (by rw [hkind]; exact h1) (by rw [bpayTo_length, hkind])
    rw [this, hkind, hK, hagain]
  · have hk0 : wd (S.set t x) 0 = M := by rw [wd_set _ _ _ _ ht, if_neg (by omega), hM]
    have := sdec_of (S := S.set t x) (by rw [List.length_set]; omega) (by rw [hk0]; exact h1) (by rw [List.length_set, hk0]; exact h2)
    rw [this, hk0, hK]
  · rw [hK]
    exact bother_byte hok hB t x ht hx hne K (by omega)
theorem sframe_length (P : List Nat) : (srfFrame P).length = P.length + 8 := by
  unfold srfFrame
  simp
theorem sdec_call (C : SirfCalls) {a : Nat} {v : Value} {S : List Nat} {zs : List Int} {w : World} (hr : Row .u8 w v S) (hB : Bytes S) (hl : S.length ≤ 100000) (h : srfDec S = (a, zs, 0)) :
    Calls Try.prog 7 #[v] w fun e w' => ∃ A c, e = .returned (.tuple #[.agg #[.int .u8 (a : Nat), .slice A zs.length c], .int .i64 0]) ∧ RowZ .i64 w' (.slice A zs.length c) zs ∧ Grew w w' := by
  have H := C.dec v S w hr hB hl
  rw [h] at H
  refine H.mono ?_
  rintro e w' ⟨u, rfl, k, _, g⟩
  obtain ⟨A, c, rfl, _⟩ := k.form
  exact ⟨A, c, rfl, k, g⟩
theorem sdec_no (C : SirfCalls) {v : Value} {S : List Nat} {w : World} (hr : Row .u8 w v S) (hB : Bytes S) (hl : S.length ≤ 100000) (h : (srfDec S).2.2 ≠ 0) :
    Calls Try.prog 7 #[v] w fun e w' => ∃ (A : Option Addr) (c er : Nat), e = .returned (.tuple #[.agg #[.int .u8 0, .slice A 0 c], .int .i64 (er : Nat)]) ∧ er ≠ 0 ∧ Grew w w' := by
  have H := C.dec v S w hr hB hl
  refine H.mono ?_
  rintro e w' ⟨u, rfl, k, _, g⟩
  obtain ⟨e1, e2⟩ := sdec_err h
  rw [e2] at k
  obtain ⟨A, c, rfl, _⟩ := k.form
  exact ⟨A, c, _, by rw [e1]; rfl, h, g⟩
theorem spay_call (C : SirfCalls) {a : Nat} {v : Value} {zs : List Int} {P : List Nat} {w : World} (ha : a < 256) (hr : RowZ .i64 w v zs) (hz : I64 zs) (hl : zs.length ≤ 100000) (h : srfPay a zs = (P, 0)) :
    Calls Try.prog 10 #[.agg #[.int .u8 (a : Nat), v]] w fun e w' => ∃ A c, e = .returned (.tuple #[.slice A P.length c, .int .i64 0]) ∧ Row .u8 w' (.slice A P.length c) P ∧ Grew w w' := by
  have H := C.pay a v zs w ha hr hz hl
  rw [h] at H
  refine H.mono ?_
  rintro e w' ⟨u, rfl, k, _, g⟩
  obtain ⟨A, c, rfl, _⟩ := k.form
  exact ⟨A, c, rfl, k, g⟩
theorem senc_call (C : SirfCalls) {a : Nat} {v : Value} {zs : List Int} {P : List Nat} {w : World} (ha : a < 256) (hr : RowZ .i64 w v zs) (hz : I64 zs) (hl : zs.length ≤ 100000) (h : srfEnc a zs = (P, 0)) :
    Calls Try.prog 12 #[.agg #[.int .u8 (a : Nat), v]] w fun e w' => ∃ A c, e = .returned (.tuple #[.slice A P.length c, .int .i64 0]) ∧ Row .u8 w' (.slice A P.length c) P ∧ Grew w w' := by
  have H := C.enc a v zs w ha hr hz hl
  rw [h] at H
  refine H.mono ?_
  rintro e w' ⟨u, rfl, k, _, g⟩
  obtain ⟨A, c, rfl, _⟩ := k.form
  exact ⟨A, c, rfl, k, g⟩
theorem ssame_call {a : Nat} {v1 v2 : Value} {xs ys : List Int} {w : World} (h1 : RowZ .i64 w v1 xs) (h2 : RowZ .i64 w v2 ys) (hl : xs.length ≤ 100000) :
    Calls Try.prog 9 #[.agg #[.int .u8 (a : Nat), v1], .agg #[.int .u8 (a : Nat), v2]] w fun e w' => e = .returned (.bool (decide (xs = ys))) ∧ Grew w w' := by
  refine (ref13_Same a a v1 v2 xs ys w h1 h2 hl).mono ?_
  rintro e w' ⟨rfl, g⟩
  exact ⟨by simp, g⟩
theorem sfld_is (p T : Nat) (Z : Int) (h : p ≤ T) : decide ((T : Int) < (p : Int) + if Z < -Z then -Z else Z) = (decide ((p : Int).toNat ≤ T) && decide (T < (p : Int).toNat + Z.natAbs)) := by
  rw [Bool.eq_iff_iff]
  simp only [decide_eq_true_eq, Bool.and_eq_true]
  split <;> omega
end Go.Proofs.Ytjjpfbdcfifofaa

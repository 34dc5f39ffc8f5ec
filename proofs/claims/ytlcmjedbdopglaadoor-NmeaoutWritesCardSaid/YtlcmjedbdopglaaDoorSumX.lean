/-
  Contracts of the document's checksums.
  The document's exclusive or, bit by bit.
-/
import Derived.Test.YtlcmjedbdopglaaDoorSumM
import Derived.Test.YtlcmjedbdopglaaDoorRefA
import Derived.Test.YtlcmjedbdopglaaDoorBits
import Derived.LoopTactic
namespace Go.Proofs.YtlcmjedbdopglaaDoor
open Go.RowKit
set_option linter.unusedVariables false

/- Contracts of the document's checksums. -/
theorem ref07_Fifteen (v : Value) (ns : List Nat) (w : World) (h : Row .u8 w v ns) (hB : Bytes ns) (hl : ns.length ≤ 100000) :
    Calls Tryd.prog 35 #[v] w fun e w' => e = .returned (.int .u16 (fifOf ns : Nat)) ∧ w = w' := by
  obtain ⟨A, c, rfl, hc, hr⟩ := h
  have HR := Lib.hid hr
  clear hr
  go_enter Tryd.func35, Tryd.ntmps35
  go_wp2_with fail
  go_loop [3, 4] (fun n i => ∃ k : Nat, k ≤ ns.length ∧ i = .int .i64 (k : Nat) ∧ n = .int .i64 (addTo ns k : Nat)) (fun _ i => ns.length - (intOf i).toNat)
  case atStart => exact ⟨0, Nat.zero_le _, rfl, rfl⟩
  case round =>
    obtain ⟨k, hk, rfl, rfl⟩ := hrel
    have hs := addTo_le hB k
    by_cases hlt : k < ns.length
    · obtain ⟨b, o, rfl, hb, hcell⟩ := HR.out (by omega)
      have hx := hcell k hlt
      have hw := hB k
      have HS : Hid (addTo ns (k + 1) = addTo ns k + wd ns k) := Lib.hid rfl
      clear hcell
      go_wp2_with fail
      go_round
      case rel => exact ⟨k + 1, by omega, by go_num, by rw [HS.out]; go_num⟩
      case measure => simp [intOf]; omega
    · obtain rfl : k = ns.length := by omega
      go_wp2_with fail
      go_ret
      exact ⟨ret_int (by unfold fifOf; omega), rfl⟩

theorem ref07_Fletcher (v : Value) (ns : List Nat) (w : World) (h : Row .u8 w v ns) (hB : Bytes ns) (hl : ns.length ≤ 100000) :
    Calls Tryd.prog 34 #[v] w fun e w' => e = .returned (.tuple #[.int .u8 (fletA ns : Nat), .int .u8 (fletB ns : Nat)]) ∧ w = w' := by
  obtain ⟨A, c, rfl, hc, hr⟩ := h
  have HR := Lib.hid hr
  clear hr
  go_enter Tryd.func34, Tryd.ntmps34
  go_wp2_with fail
  go_loop [4, 5, 6] (fun p q i => ∃ (k P Q : Nat), k ≤ ns.length ∧ i = .int .i64 (k : Nat) ∧ p = .int .i64 (P : Nat) ∧ q = .int .i64 (Q : Nat) ∧ P < 256 ∧ Q < 256 ∧ Hid (P = addTo ns k % 256) ∧ Hid (Q = wUp ns ns.length k % 256)) (fun _ _ i => ns.length - (intOf i).toNat)
  case atStart => exact ⟨0, 0, 0, Nat.zero_le _, rfl, rfl, rfl, by omega, by omega, Lib.hid rfl, Lib.hid rfl⟩
  case round =>
    obtain ⟨k, P, Q, hk, rfl, rfl, rfl, hP, hQ, eP, eQ⟩ := hrel
    by_cases hlt : k < ns.length
    · obtain ⟨b, o, rfl, hb, hcell⟩ := HR.out (by omega)
      have hx := hcell k hlt
      have hw := hB k
      have HS : Hid ((P + wd ns k) % 256 = addTo ns (k + 1) % 256) := by
        have : addTo ns (k + 1) = addTo ns k + wd ns k := rfl
        show _ = _; rw [eP.out, this]; omega
      have HW : Hid ((Q + wd ns k * ((ns.length - k) % 256)) % 256 = wUp ns ns.length (k + 1) % 256) := by show _ = _; rw [eQ.out]; exact wUp_step ns ns.length k
      have hm : (wd ns k : Int) * ((ns.length - k : Nat) % 256 : Nat) ≤ 65535 := by
        have : wd ns k * ((ns.length - k) % 256) ≤ 255 * 255 := Nat.mul_le_mul (by omega) (by omega)
        have e : (wd ns k : Int) * ((ns.length - k : Nat) % 256 : Nat) = ((wd ns k * ((ns.length - k) % 256) : Nat) : Int) := by simp
        rw [e]; omega
      have hm0 : (0 : Int) ≤ (wd ns k : Int) * ((ns.length - k : Nat) % 256 : Nat) := Int.mul_nonneg (by omega) (by omega)
      have hsub : (((ns.length - k : Nat) % 256 : Nat) : Int) = ((ns.length : Int) - (k : Int)) % 256 := by omega
      rw [hsub] at hm hm0
      have HSUB := Lib.hid hsub
      clear hcell eP eQ hsub
      go_wp2_with fail
      go_round
      case rel => exact ⟨k + 1, (P + wd ns k) % 256, (Q + wd ns k * ((ns.length - k) % 256)) % 256, by omega, by go_num, by go_num, by rw [← HSUB.out]; go_num, Nat.mod_lt _ (by omega), Nat.mod_lt _ (by omega), HS, HW⟩
      case measure => simp [intOf]; omega
    · obtain rfl : k = ns.length := by omega
      have e1 : Hid (P = fletA ns) := eP
      have e2 : Hid (Q = fletB ns) := by show _ = _; rw [eQ.out]; exact (fletTo_w ns ns.length).symm
      clear eP eQ
      go_wp2_with fail
      go_ret2
      exact ⟨by rw [← e1.out, ← e2.out]; rfl, rfl⟩

theorem crc_xor (r : Nat) (hr : r < 4294967296) : Value.int IntKind.u32 (bits BinOp.xor IntKind.u32 ((r : Int) / 2) 3988292384) = Value.int IntKind.u32 ((r / 2 ^^^ poly : Nat) : Int) := by
  rw [show ((r : Int) / 2) = ((r / 2 : Nat) : Int) by omega, show (3988292384 : Int) = ((poly : Nat) : Int) from rfl, bits_xor_u32_n _ _ (by omega) (by decide)]

/- The document's exclusive or, bit by bit. -/
theorem div_byte (x P : Nat) (h : x < 256) : 0 ≤ (x : Int) / (P : Int) ∧ (x : Int) / (P : Int) ≤ 255 := by
  rw [← Int.natCast_ediv]
  have := Nat.div_le_self x P
  generalize x / P = y at this ⊢
  omega

set_option maxRecDepth 100000 in
set_option maxHeartbeats 1000000 in
theorem ref07_Xor (v : Value) (ns : List Nat) (w : World) (h : Row .u8 w v ns) (hB : Bytes ns) (hl : ns.length ≤ 100000) :
    Calls Tryd.prog 32 #[v] w fun e w' => e = .returned (.int .u8 (xorOf ns : Nat)) ∧ w = w' := by
  obtain ⟨A, c, rfl, hc, hr⟩ := h
  have HR := Lib.hid hr
  have hN : xorOf ns < 256 := xorTo_lt hB _
  obtain ⟨N, HN⟩ : ∃ N, Hid (xorOf ns = N) := ⟨_, Lib.hid rfl⟩
  rw [HN.out] at hN ⊢
  clear hr
  go_enter Tryd.func32, Tryd.ntmps32
  go_wp2_with fail
  go_loop [3, 4] (fun o m => ∃ (j P Z : Nat), j ≤ 8 ∧ m = .int .i64 (P : Nat) ∧ o = .int .i64 (Z : Nat) ∧ Hid (2 ^ j = P) ∧ Hid (N % 2 ^ j = Z) ∧ 1 ≤ P ∧ P ≤ 256 ∧ Z < 256 ∧ (P < 256 → j < 8)) (fun _ m => 256 - (intOf m).toNat)
  case atStart => exact ⟨0, 1, 0, by omega, rfl, rfl, Lib.hid rfl, Lib.hid (by simp [Nat.mod_one]), by omega, by omega, by omega, by omega⟩
  case round =>
    obtain ⟨j, P, Z, hj, rfl, rfl, hP, hZ, p1, p2, z1, pj⟩ := hrel
    by_cases hlt : P < 256
    · have hj8 := pj hlt
      clear pj
      have p128 : P ≤ 128 := by
        have : 2 ^ j ≤ 2 ^ 7 := Nat.pow_le_pow_right (by omega) (by omega)
        rw [hP.out] at this; omega
      have HPJ : Hid (P * 2 < 256 → j + 1 < 8) := fun h => by
        have h2 : 2 ^ (j + 1) = P * 2 := by rw [Nat.pow_succ, hP.out]
        rcases Nat.lt_or_ge (j + 1) 8 with q | q
        · exact q
        · have e : j + 1 = 8 := by omega
          rw [e] at h2; omega
      have HP2 : Hid (2 ^ (j + 1) = P * 2) := by show _ = _; rw [Nat.pow_succ, hP.out]
      have HLOW : Hid (N % 2 ^ (j + 1) = if N / P % 2 = 1 then Z + P else Z) := by show _ = _; rw [low_step, hP.out, ← hZ.out, hP.out]
      have HCNT : ∀ k, Hid (bitCount ns j (k + 1) = if wd ns k / P % 2 = 1 then bitCount ns j k + 1 else bitCount ns j k) := fun k => by show _ = _; rw [← hP.out]; rfl
      have HCX : Hid (bitCount ns j ns.length % 2 = N / P % 2) := by show _ = _; rw [bitCount_xor, ← hP.out, ← HN.out]; rfl
      have HCL := bitCount_le ns j
      have hZP : Hid (Z < P) := by show _ < _; rw [← hZ.out, ← hP.out]; exact Nat.mod_lt _ (Nat.two_pow_pos j)
      clear hP hZ
      go_wp2_with fail
      go_loop [5, 6] (fun n i => ∃ (k : Nat), k ≤ ns.length ∧ i = .int .i64 (k : Nat) ∧ n = .int .i64 (bitCount ns j k : Nat)) (fun _ i => ns.length - (intOf i).toNat)
      case atStart => exact ⟨0, Nat.zero_le _, rfl, rfl⟩
      case round =>
        obtain ⟨k, hk, rfl, rfl⟩ := hrel
        have hcl := HCL k
        by_cases hlt2 : k < ns.length
        · obtain ⟨b, o, rfl, hb, hcell⟩ := HR.out (by omega)
          have hx := hcell k hlt2
          have hw := hB k
          have HC := HCNT k
          clear hcell HCL HCNT
          obtain ⟨x, HX⟩ : ∃ x, Hid (wd ns k = x) := ⟨_, Lib.hid rfl⟩
          obtain ⟨C, HCk⟩ : ∃ x, Hid (bitCount ns j k = x) := ⟨_, Lib.hid rfl⟩
          rw [HX.out] at hx hw HC
          rw [HCk.out] at HC hcl
          have HD : (x : Int) / (P : Int) = ((x / P : Nat) : Int) := by simp
          have hq : 0 ≤ (x : Int) / (P : Int) ∧ (x : Int) / (P : Int) ≤ 255 := div_byte x P hw
          obtain ⟨hq0, hq1⟩ := hq
          simp only [HCk.out]
          by_cases hbit : x / P % 2 = 1
          · have HB : Hid (bitCount ns j (k + 1) = C + 1) := by show _ = _; rw [HC.out, if_pos hbit]
            have q : ((x : Int) / (P : Int) % 2 == 1) = true := by rw [HD]; simp; omega
            clear HC hbit HD
            go_wp2_with fail
            go_round
            case rel => exact ⟨k + 1, by omega, by go_num, by rw [HB.out]; go_num⟩
            case measure => simp [intOf]; omega
          · have HB : Hid (bitCount ns j (k + 1) = C) := by show _ = _; rw [HC.out, if_neg hbit]
            have q : ((x : Int) / (P : Int) % 2 == 1) = false := by rw [HD]; simp; omega
            clear HC hbit HD
            go_wp2_with fail
            go_round
            case rel => exact ⟨k + 1, by omega, by go_num, by rw [HB.out]⟩
            case measure => simp [intOf]; omega
        · obtain rfl : k = ns.length := by omega
          clear HCNT HCL
          obtain ⟨C, HCk⟩ : ∃ x, Hid (bitCount ns j ns.length = x) := ⟨_, Lib.hid rfl⟩
          rw [HCk.out] at HCX hcl
          simp only [HCk.out]
          have hzp := hZP.out
          by_cases hbit : C % 2 = 1
          · have HB : Hid (N % 2 ^ (j + 1) = Z + P) := by show _ = _; rw [HLOW.out, if_pos (by rw [← HCX.out]; exact hbit)]
            have q : ((C : Int) % 2 == 1) = true := by simp; omega
            clear HLOW HCX hbit hZP
            go_wp2_with fail
            go_round
            case rel => exact ⟨j + 1, P * 2, Z + P, by omega, by go_num, by go_num, HP2, HB, by omega, by omega, by omega, HPJ.out⟩
            case measure => simp [intOf]; omega
          · have HB : Hid (N % 2 ^ (j + 1) = Z) := by show _ = _; rw [HLOW.out, if_neg (by rw [← HCX.out]; exact hbit)]
            have q : ((C : Int) % 2 == 1) = false := by simp; omega
            clear HLOW HCX hbit hZP
            go_wp2_with fail
            go_round
            case rel => exact ⟨j + 1, P * 2, Z, by omega, by go_num, rfl, HP2, HB, by omega, by omega, by omega, HPJ.out⟩
            case measure => simp [intOf]; omega
    · have e : Hid (Z = N) := by
        have : j = 8 := by
          rcases Nat.lt_or_ge j 8 with h | h
          · exfalso
            have : 2 ^ j ≤ 2 ^ 7 := Nat.pow_le_pow_right (by omega) (by omega)
            rw [hP.out] at this; omega
          · omega
        show _ = _
        rw [← hZ.out, this]; omega
      obtain rfl : P = 256 := by omega
      clear hP hZ
      go_wp2_with fail
      go_ret
      exact ⟨ret_int (by rw [e.out]), rfl⟩
end Go.Proofs.YtlcmjedbdopglaaDoor

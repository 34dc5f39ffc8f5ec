/-
  Contracts of the document's checksums.
  The document's exclusive or, bit by bit.
-/
import Derived.Test.YtaaphnlkfmaeeaaSumM
import Derived.Test.YtaaphnlkfmaeeaaRefA
import Derived.Test.YtaaphnlkfmaeeaaBits
import Derived.LoopTactic
namespace Go.Proofs.Ytaaphnlkfmaeeaa
open Go.RowKit
set_option linter.unusedVariables false

/- Contracts of the document's checksums. -/

theorem ref07_Fletcher (v : Value) (ns : List Nat) (w : World) (h : Row .u8 w v ns) (hB : Bytes ns) (hl : ns.length ≤ 100000) :
    Calls Try.prog 22 #[v] w fun e w' => e = .returned (.tuple #[.int .u8 (fletA ns : Nat), .int .u8 (fletB ns : Nat)]) ∧ w = w' := by
  obtain ⟨A, c, rfl, hc, hr⟩ := h
  have HR := Lib.hid hr
  clear hr
  go_enter Try.func22, Try.ntmps22
  go_wp2_with fail
  go_loop [4, 5, 6] (fun p q i => ∃ (k P Q : Nat), k ≤ ns.length ∧ i = .int .i64 (k : Nat) ∧ p = .int .i64 (P : Nat) ∧ q = .int .i64 (Q : Nat) ∧ P < 256 ∧ Q < 256 ∧ Hid (P = addTo ns k % 256) ∧ Hid (Q = wUp ns ns.length k % 256)) (fun _ _ i => ns.length - (intOf i).toNat)
  case atStart => exact ⟨0, 0, 0, Nat.zero_le _, rfl, rfl, rfl, by omega, by omega, Lib.hid rfl, Lib.hid rfl⟩
  case round =>
    obtain ⟨k, P, Q, hk, rfl, rfl, rfl, hP, hQ, eP, eQ⟩ := hrel
    by_cases hlt : k < ns.length
    · obtain ⟨b, o, rfl, hb, hcell⟩ := HR.out (by omega)
      have hx := hcell k hlt
      have hw := hB k
      have HS : Hid ((P + wd ns k) % 256 = addTo ns (k + 1) % 256) := by
        have : addTo ns (k + 1) = addTo ns k + wd ns k := rfl
        show _ = _; rw [eP.out, this]; omega
      have HW : Hid ((Q + wd ns k * ((ns.length - k) % 256)) % 256 = wUp ns ns.length (k + 1) % 256) := by show _ = _; rw [eQ.out]; exact wUp_step ns ns.length k
      have hm : (wd ns k : Int) * ((ns.length - k : Nat) % 256 : Nat) ≤ 65535 := by
        have : wd ns k * ((ns.length - k) % 256) ≤ 255 * 255 := Nat.mul_le_mul (by omega) (by omega)
        have e : (wd ns k : Int) * ((ns.length - k : Nat) % 256 : Nat) = ((wd ns k * ((ns.length - k) % 256) : Nat) : Int) := by simp
        rw [e]; omega
      have hm0 : (0 : Int) ≤ (wd ns k : Int) * ((ns.length - k : Nat) % 256 : Nat) := Int.mul_nonneg (by omega) (by omega)
      have hsub : (((ns.length - k : Nat) % 256 : Nat) : Int) = ((ns.length : Int) - (k : Int)) % 256 := by omega
      rw [hsub] at hm hm0
      have HSUB := Lib.hid hsub
      clear hcell eP eQ hsub
      go_wp2_with fail
      go_round
      case rel => exact ⟨k + 1, (P + wd ns k) % 256, (Q + wd ns k * ((ns.length - k) % 256)) % 256, by omega, by go_num, by go_num, by rw [← HSUB.out]; go_num, Nat.mod_lt _ (by omega), Nat.mod_lt _ (by omega), HS, HW⟩
      case measure => simp [intOf]; omega
    · obtain rfl : k = ns.length := by omega
      have e1 : Hid (P = fletA ns) := eP
      have e2 : Hid (Q = fletB ns) := by show _ = _; rw [eQ.out]; exact (fletTo_w ns ns.length).symm
      clear eP eQ
      go_wp2_with fail
      go_ret2
      exact ⟨by rw [← e1.out, ← e2.out]; rfl, rfl⟩

theorem crc_xor (r : Nat) (hr : r < 4294967296) : Value.int IntKind.u32 (bits BinOp.xor IntKind.u32 ((r : Int) / 2) 3988292384) = Value.int IntKind.u32 ((r / 2 ^^^ poly : Nat) : Int) := by
  rw [show ((r : Int) / 2) = ((r / 2 : Nat) : Int) by omega, show (3988292384 : Int) = ((poly : Nat) : Int) from rfl, bits_xor_u32_n _ _ (by omega) (by decide)]

/- The document's exclusive or, bit by bit. -/
theorem div_byte (x P : Nat) (h : x < 256) : 0 ≤ (x : Int) / (P : Int) ∧ (x : Int) / (P : Int) ≤ 255 := by
  rw [← Int.natCast_ediv]
  have := Nat.div_le_self x P
  generalize x / P = y at this ⊢
  omega

end Go.Proofs.Ytaaphnlkfmaeeaa

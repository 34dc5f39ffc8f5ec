/-
  Contracts of the document's checksums.
  The document's exclusive or, bit by bit.
-/
import Derived.Test.YtjjpfbdcfifofaaSumM
import Derived.Test.YtjjpfbdcfifofaaRefA
import Derived.Test.YtjjpfbdcfifofaaBits
import Derived.LoopTactic
namespace Go.Proofs.Ytjjpfbdcfifofaa
open Go.RowKit
set_option linter.unusedVariables false

/- Contracts of the document's checksums. -/
theorem ref07_Fifteen (v : Value) (ns : List Nat) (w : World) (h : Row .u8 w v ns) (hB : Bytes ns) (hl : ns.length ≤ 100000) :
    Calls Try.prog 23 #[v] w fun e w' => e = .returned (.int .u16 (fifOf ns : Nat)) ∧ w = w' := by
  obtain ⟨A, c, rfl, hc, hr⟩ := h
  have HR := Lib.hid hr
  clear hr
  go_enter Try.func23, Try.ntmps23
  go_wp2_with fail
  go_loop [3, 4] (fun n i => ∃ k : Nat, k ≤ ns.length ∧ i = .int .i64 (k : Nat) ∧ n = .int .i64 (addTo ns k : Nat)) (fun _ i => ns.length - (intOf i).toNat)
  case atStart => exact ⟨0, Nat.zero_le _, rfl, rfl⟩
  case round =>
    obtain ⟨k, hk, rfl, rfl⟩ := hrel
    have hs := addTo_le hB k
    by_cases hlt : k < ns.length
    · obtain ⟨b, o, rfl, hb, hcell⟩ := HR.out (by omega)
      have hx := hcell k hlt
      have hw := hB k
      have HS : Hid (addTo ns (k + 1) = addTo ns k + wd ns k) := Lib.hid rfl
      clear hcell
      go_wp2_with fail
      go_round
      case rel => exact ⟨k + 1, by omega, by go_num, by rw [HS.out]; go_num⟩
      case measure => simp [intOf]; omega
    · obtain rfl : k = ns.length := by omega
      go_wp2_with fail
      go_ret
      exact ⟨ret_int (by unfold fifOf; omega), rfl⟩


theorem crc_xor (r : Nat) (hr : r < 4294967296) : Value.int IntKind.u32 (bits BinOp.xor IntKind.u32 ((r : Int) / 2) 3988292384) = Value.int IntKind.u32 ((r / 2 ^^^ poly : Nat) : Int) := by
  rw [show ((r : Int) / 2) = ((r / 2 : Nat) : Int) by omega, show (3988292384 : Int) = ((poly : Nat) : Int) from rfl, bits_xor_u32_n _ _ (by omega) (by decide)]

/- The document's exclusive or, bit by bit. -/
theorem div_byte (x P : Nat) (h : x < 256) : 0 ≤ (x : Int) / (P : Int) ∧ (x : Int) / (P : Int) ≤ 255 := by
  rw [← Int.natCast_ediv]
  have := Nat.div_le_self x P
  generalize x / P = y at this ⊢
  omega

end Go.Proofs.Ytjjpfbdcfifofaa

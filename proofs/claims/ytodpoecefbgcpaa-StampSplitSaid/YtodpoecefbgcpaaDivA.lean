/-
  bits.Div64 comes to the quotient and the rest.
-/
import Derived.Test.YtodpoecefbgcpaaChecked
import Derived.Test.YtodpoecefbgcpaaNum
import Derived.Test.YtodpoecefbgcpaaShelf
import Derived.WalkKit
import Derived.WalkLawsBesides
import Derived.Outline
import Derived.Lib.Hide
import Derived.Laws.Bits64b
import Derived.Deep.QuietTactic
import Derived.BigQuiet
namespace Go.Proofs.Ytodpoecefbgcpaa
open Go.RowKit
set_option linter.unusedVariables false

theorem wrap_mul32 (a b : Int) (h0 : 0 ≤ a) (h1 : a ≤ 4294967295) (h2 : 0 ≤ b) (h3 : b ≤ 4294967295) : IntKind.u64.wrap (a * b) = a * b := by
  have : a * b ≤ 4294967295 * 4294967295 := Int.mul_le_mul h1 h3 h2 (by omega)
  exact IntWalk.u64_in _ ⟨Int.mul_nonneg h0 h2, by omega⟩

set_option maxHeartbeats 1000000 in
set_option maxRecDepth 100000 in
theorem div64_core (hi lo y s Y yn1 yn0 un32 un10 un1 un0 r Q1 un21 r0 Q0 R : Int) (w : World) (h0 : 0 < hi) (h1 : hi < y) (h2 : y ≤ 18446744073709551615) (h3 : 0 ≤ lo) (h4 : lo ≤ 18446744073709551615)
   (hs0 : 0 ≤ s) (hs : s ≤ 63) (HS : Hid (64 - (Lib.bitLen y.toNat : Int) = s))
   (hY : IntKind.u64.wrap (y * 2 ^ s.toNat) = Y) (hyn1 : Y / 4294967296 = yn1) (hyn0 : bits BinOp.and IntKind.u64 Y 4294967295 = yn0)
   (hun32 : bits BinOp.or IntKind.u64 (IntKind.u64.wrap (hi * 2 ^ s.toNat)) (lo / 2 ^ (64 - s).toNat) = un32)
   (hun10 : IntKind.u64.wrap (lo * 2 ^ s.toNat) = un10) (hun1 : un10 / 4294967296 = un1) (hun0 : bits BinOp.and IntKind.u64 un10 4294967295 = un0)
   (hb1 : 0 ≤ un32 ∧ un32 ≤ 18446744073709551615) (hb2 : 2147483648 ≤ yn1 ∧ yn1 ≤ 4294967295) (hb3 : 0 ≤ yn0 ∧ yn0 ≤ 4294967295) (hb4 : 0 ≤ un1 ∧ un1 ≤ 4294967295) (hb5 : 0 ≤ un0 ∧ un0 ≤ 4294967295) (hb6 : 0 ≤ un21 ∧ un21 ≤ 18446744073709551615)
   (hb7 : 0 ≤ Q1 ∧ Q1 ≤ 4294967295) (hb8 : 0 ≤ Q0 ∧ Q0 ≤ 4294967295)
   (K1 : Hid (Knuth un32 un1 yn1 yn0 Y Q1)) (K0 : Hid (Knuth un21 un0 yn1 yn0 Y Q0))
   (hr : IntKind.u64.wrap (un32 - IntKind.u64.wrap (un32 / yn1 * yn1)) = r) (Hr : Hid (un32 / yn1 * yn1 + r = un32)) (hrb : 0 ≤ r ∧ r < 4294967296)
   (h21 : IntKind.u64.wrap (IntKind.u64.wrap (IntKind.u64.wrap (un32 * 4294967296) + un1) - IntKind.u64.wrap (Q1 * Y)) = un21)
   (hr0 : IntKind.u64.wrap (un21 - IntKind.u64.wrap (un21 / yn1 * yn1)) = r0) (Hr0 : Hid (un21 / yn1 * yn1 + r0 = un21)) (hrb0 : 0 ≤ r0 ∧ r0 < 4294967296)
   (hR : IntKind.u64.wrap (IntKind.u64.wrap (IntKind.u64.wrap (un21 * 4294967296) + un0) - IntKind.u64.wrap (Q0 * Y)) / 2 ^ s.toNat = R) :
    Calls Try.prog 50 #[.int .u64 hi, .int .u64 lo, .int .u64 y] w fun e w' => e = .returned (.tuple #[.int .u64 (Q1 * 4294967296 + Q0), .int .u64 R]) ∧ w = w' := by
  go_enter Try.func50, Try.ntmps50
  go_wp2_with (go_at_call 51; refine (Try.bits_LeadingZeros64 _ _ (by omega) (by omega)).mono ?_; rintro e w' ⟨rfl, rfl⟩; rw [HS.out])
  go_loop [15, 16] (fun a b => ∃ q r : Int, a = .int .u64 q ∧ b = .int .u64 r ∧ 0 ≤ r ∧ r < 4294967296 ∧ q ≤ 18446744073709551615 ∧ Hid (q * yn1 + r = un32) ∧ Q1 ≤ q) (fun a _ => (intOf a).toNat)
  case atStart => exact ⟨_, _, rfl, rfl, hrb.1, hrb.2, by have := IntWalk.tdiv_le un32 yn1 (by omega) (by omega); omega, Hr, K1.out.start⟩
  case round =>
    obtain ⟨q, rr, rfl, rfl, hr1, hr2, hq1, Hq, hQq⟩ := hrel
    have hw0 : q < 4294967296 → IntKind.u64.wrap (q * yn0) = q * yn0 := fun h => wrap_mul32 q yn0 (by omega) (by omega) hb3.1 hb3.2
    rcases knuth_ways K1.out Hq.out hQq with ⟨hA, hn, hbr, Hn⟩ | ⟨hA, hB, hn, hbr, Hn⟩ | ⟨hA, hbr, rfl⟩ | ⟨hA, hB, hbr, rfl⟩ | ⟨hA, hB, rfl⟩
    · clear hw0
      go_wp2
      go_round
      case rel => exact ⟨q - 1, rr + yn1, rfl, rfl, by omega, by omega, by omega, Hn, hn⟩
      case measure => simp [intOf]; omega
    · have hw1 := hw0 hA
      clear hw0
      go_wp2
      go_round
      case rel => exact ⟨q - 1, rr + yn1, rfl, rfl, by omega, by omega, by omega, Hn, hn⟩
      case measure => simp [intOf]; omega
    all_goals
      first | (have hw1 := hw0 hA; clear hw0) | clear hw0
      go_wp2
      go_loop [18, 16] (fun a b => ∃ q r : Int, a = .int .u64 q ∧ b = .int .u64 r ∧ 0 ≤ r ∧ r < 4294967296 ∧ q ≤ 18446744073709551615 ∧ Hid (q * yn1 + r = un21) ∧ Q0 ≤ q) (fun a _ => (intOf a).toNat)
      case atStart => exact ⟨_, _, rfl, rfl, hrb0.1, hrb0.2, by have := IntWalk.tdiv_le un21 yn1 (by omega) (by omega); omega, Hr0, K0.out.start⟩
      case round =>
        clear hr Hr hrb h21 hr0 Hr0 hrb0 hun10 hun1 hun0 hun32 hyn0 hyn1 hY
        obtain ⟨q, r2, rfl, rfl, hr1, hr2, hq1, Hq, hQq⟩ := hrel
        have hw0 : q < 4294967296 → IntKind.u64.wrap (q * yn0) = q * yn0 := fun h => wrap_mul32 q yn0 (by omega) (by omega) hb3.1 hb3.2
        rcases knuth_ways K0.out Hq.out hQq with ⟨hA, hn, hbr, Hn⟩ | ⟨hA, hB, hn, hbr, Hn⟩ | ⟨hA, hbr, rfl⟩ | ⟨hA, hB, hbr, rfl⟩ | ⟨hA, hB, rfl⟩
        · clear hw0
          go_wp2
          go_round
          case rel => exact ⟨q - 1, r2 + yn1, rfl, rfl, by omega, by omega, by omega, Hn, hn⟩
          case measure => simp [intOf]; omega
        · have hw1 := hw0 hA
          clear hw0
          go_wp2
          go_round
          case rel => exact ⟨q - 1, r2 + yn1, rfl, rfl, by omega, by omega, by omega, Hn, hn⟩
          case measure => simp [intOf]; omega
        all_goals
          first | (have hw1 := hw0 hA; clear hw0) | clear hw0
          go_wp2
          go_ret2
          exact ⟨rfl, rfl⟩

end Go.Proofs.Ytodpoecefbgcpaa

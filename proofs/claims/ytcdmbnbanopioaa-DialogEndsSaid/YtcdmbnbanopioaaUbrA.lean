/-
  The document's UBX messages: kinds, powers, values.
-/
import Derived.Test.YtcdmbnbanopioaaUbxM
import Derived.LoopTactic
import Derived.Deep.LoopGhost
import Derived.StillTailTactics
import Derived.Deep.QuietTactic
import Derived.BigQuiet
namespace Go.Proofs.Ytcdmbnbanopioaa
open Go.RowKit
set_option linter.unusedVariables false

/-- The codes of the kinds. -/
def isUbx (c : Nat) : Prop := c = 263 ∨ c = 288 ∨ c = 289 ∨ c = 294 ∨ c = 3329 ∨ c = 1280 ∨ c = 1281 ∨ c = 1537 ∨ c = 1544 ∨ c = 1585
theorem ubx_no {c : Nat} (h : ¬ isUbx c) : ubxLay c = (0, []) := by
  unfold isUbx at h
  unfold ubxLay
  rw [if_neg (by omega), if_neg (by omega), if_neg (by omega), if_neg (by omega), if_neg (by omega), if_neg (by omega), if_neg (by omega), if_neg (by omega), if_neg (by omega), if_neg (by omega)]
theorem row_litZ' (w : World) (k : IntKind) (E : TypeId) (fr : Nat × Nat) (cs : Array Value) (zs : List Int) (n : Nat) (h : cs = (cellsZ k zs).toArray) (hn : n = zs.length) : RowZ k (w.alloc (.cells cs E fr)) (.slice (some ⟨w.heap.size, 0, none⟩) n n) zs := by
  subst h hn
  exact row_litZ w k E fr zs
set_option maxHeartbeats 2000000 in
theorem ref12_Layout (a b : Nat) (w : World) (ha : a < 256) (hb : b < 256) :
    Calls Try.prog 47 #[.int .u8 (a : Nat), .int .u8 (b : Nat)] w fun e w' => ∃ v, e = .returned (.tuple #[.int .i64 ((ubxLay (a * 256 + b)).1 : Nat), v]) ∧ RowZ .i64 w' v (ubxLay (a * 256 + b)).2 ∧ Grew w w' := by
  obtain ⟨c, hc⟩ : ∃ c, a * 256 + b = c := ⟨_, rfl⟩
  rw [hc]
  have h0 : (a : Int) * 256 + (b : Int) = (c : Nat) := by omega
  have w1 : IntKind.i64.wrap ((a : Int) * 256) = (a : Int) * 256 := IntWalk.i64_in _ (by omega)
  have w2 : IntKind.i64.wrap ((a : Int) * 256 + (b : Int)) = (c : Nat) := by rw [h0]; exact IntWalk.i64_in _ (by omega)
  by_cases h : isUbx c
  · rcases h with rfl | rfl | rfl | rfl | rfl | rfl | rfl | rfl | rfl | rfl
    all_goals
      clear hc
      go_enter Try.func47, Try.ntmps47
      go_wp2_with fail
      go_ret2
      exact ⟨_, rfl, row_litZ' _ _ _ _ _ _ _ rfl rfl, (Grew.refl w).alloc _⟩
  · rw [ubx_no h]
    unfold isUbx at h
    have k1 : ¬ (c : Int) = 263 := by omega
    have k2 : ¬ (c : Int) = 288 := by omega
    have k3 : ¬ (c : Int) = 289 := by omega
    have k4 : ¬ (c : Int) = 294 := by omega
    have k5 : ¬ (c : Int) = 3329 := by omega
    have k6 : ¬ (c : Int) = 1280 := by omega
    have k7 : ¬ (c : Int) = 1281 := by omega
    have k8 : ¬ (c : Int) = 1537 := by omega
    have k9 : ¬ (c : Int) = 1544 := by omega
    have k10 : ¬ (c : Int) = 1585 := by omega
    clear h hc
    go_enter Try.func47, Try.ntmps47
    go_wp2_with fail
    go_ret2
    exact ⟨_, rfl, RowZ.nil _ _, Grew.refl w⟩

theorem pow_le4 (i : Nat) (h : i ≤ 4) : 256 ^ i ≤ 4294967296 := Nat.le_trans (Nat.pow_le_pow_right (by decide) h) (by decide)
set_option maxRecDepth 100000 in
theorem ref12_power (n : Nat) (w : World) (hn : n ≤ 4) : Calls Try.prog 56 #[.int .i64 (n : Nat)] w fun e w' => e = .returned (.int .i64 (256 ^ n : Nat)) ∧ w = w' := by
  go_enter Try.func56, Try.ntmps56
  go_wp2_with fail
  go_loopg [3, 4] n (fun kx s t wr => ∃ i : Nat, i + kx = n ∧ s = .int .i64 (256 ^ i : Nat) ∧ t = .int .i64 i ∧ w = wr)
  case atStart => exact ⟨0, by omega, by simp, rfl, rfl⟩
  case round =>
    obtain ⟨i, hi, rfl, rfl, rfl⟩ := hrel
    by_cases hlt : i < n
    · have hp := pow_le4 i (by omega)
      have hq := Lib.hid (show 256 ^ (i + 1) = 256 ^ i * 256 from Nat.pow_succ ..)
      generalize 256 ^ i = p at *
      have e1 : IntKind.i64.wrap ((p : Int) * 256) = ((p * 256 : Nat) : Int) := by rw [IntWalk.i64_in _ (by omega)]; omega
      go_wp2_with fail
      go_roundg (n - (i + 1))
      case measure => omega
      case rel => exact ⟨i + 1, by omega, by rw [hq.out]; simp, by go_num, rfl⟩
    · obtain rfl : i = n := by omega
      go_wp2_with fail
      go_ret
      exact ⟨rfl, rfl⟩
end Go.Proofs.Ytcdmbnbanopioaa

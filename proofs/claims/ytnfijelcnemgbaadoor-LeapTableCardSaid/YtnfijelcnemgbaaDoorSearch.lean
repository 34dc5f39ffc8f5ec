/-
  sort.Search where what it asks is told from one place on.
-/
import Derived.Test.YtnfijelcnemgbaaDoorGrew
import Derived.Shelf.Abstract
import Derived.Deep.LoopGhost
import Derived.Handy
namespace Go.Proofs.YtnfijelcnemgbaaDoor
open Go.RowKit
set_option linter.unusedVariables false

set_option maxRecDepth 1000000 in
set_option maxHeartbeats 2000000 in
theorem sort_Search (g : Nat) (cb : Array Value) (n c : Nat) (w : World) (eg : ∀ args w, (callFunc g args).run Tryd.prog w = .ok (.enter g args) w) (hn : n ≤ 1000) (hc : c ≤ n)
    (hf : ∀ (i : Nat) w', i < n → Grew w w' → Calls Tryd.prog g (#[.int .i64 i] ++ cb) w' fun e w'' => e = .returned (.bool (decide (c ≤ i))) ∧ Grew w' w'') :
    Calls Tryd.prog 27 #[.int .i64 n, .func (.func g) #[] cb] w fun e w' => e = .returned (.int .i64 c) ∧ Grew w w' := by
  have HF : Hid _ := hf
  clear hf
  go_enter Tryd.func27, Tryd.ntmps27
  go_wp2_with fail
  go_loopg [5, 6] n (fun kx s5 s6 wr => ∃ (lo hi : Nat), s5 = .int .i64 lo ∧ s6 = .int .i64 hi ∧ lo ≤ c ∧ c ≤ hi ∧ hi ≤ n ∧ hi - lo ≤ kx ∧ Grew w wr)
  case atStart => exact ⟨0, n, rfl, rfl, Nat.zero_le _, hc, Nat.le_refl _, by omega, Grew.refl _⟩
  case round =>
    obtain ⟨lo, hi, rfl, rfl, hlo, hhi, hin, hk, hg⟩ := hrel
    by_cases hlt : lo < hi
    · have H := HF.out ((lo + hi) / 2) wr (by omega) hg
      rw [show (((lo + hi) / 2 : Nat) : Int) = ((lo : Int) + (hi : Int)) / 2 by omega] at H
      by_cases hp : c ≤ (lo + hi) / 2
      · rw [decide_eq_true hp] at H
        have HP := Lib.hid hp
        clear hp
        go_wp2_with (go_at_fn g; refine H.mono ?_; rintro e w' ⟨rfl, g1⟩)
        go_roundg ((lo + hi) / 2 - lo)
        case measure => omega
        case rel => exact ⟨lo, (lo + hi) / 2, rfl, by rw [show ((lo : Int) + (hi : Int)) / 2 = (((lo + hi) / 2 : Nat) : Int) by omega], hlo, HP.out, by omega, Nat.le_refl _, hg.trans g1⟩
      · rw [decide_eq_false hp] at H
        have HP := Lib.hid (show (lo + hi) / 2 + 1 ≤ c by omega)
        clear hp
        go_wp2_with (go_at_fn g; refine H.mono ?_; rintro e w' ⟨rfl, g1⟩)
        go_roundg (hi - ((lo + hi) / 2 + 1))
        case measure => omega
        case rel => exact ⟨(lo + hi) / 2 + 1, hi, by rw [show ((lo : Int) + (hi : Int)) / 2 + 1 = (((lo + hi) / 2 + 1 : Nat) : Int) by omega], rfl, HP.out, hhi, hin, Nat.le_refl _, hg.trans g1⟩
    · obtain rfl : hi = c := by omega
      obtain rfl : lo = hi := by omega
      go_wp2_with fail
      go_ret
      exact ⟨rfl, hg⟩

end Go.Proofs.YtnfijelcnemgbaaDoor

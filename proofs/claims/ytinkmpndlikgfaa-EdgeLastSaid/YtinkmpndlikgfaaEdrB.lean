/-
  Whether two lists of integers are the same, as the document asks it.
-/
import Derived.Test.YtinkmpndlikgfaaEdrA
namespace Go.Proofs.Ytinkmpndlikgfaa
open Go.RowKit
set_option linter.unusedVariables false

theorem same_of {xs ys : List Int} (hl : xs.length = ys.length) (h : ∀ j, j < xs.length → zi xs j = zi ys j) : xs = ys := by
  apply List.ext_getElem hl
  intro i h1 h2
  have := h i h1
  rw [zi_lt h1, zi_lt h2] at this
  exact this
-- [SAME
set_option maxRecDepth 100000 in
theorem ref16_Same (w : World) (va vb : Value) (xs ys : List Int) (ha : RowZ .i64 w va xs) (hb : RowZ .i64 w vb ys) (hm : xs.length ≤ 1000000) :
    Calls Try.prog 12 #[va, vb] w fun e w' => e = .returned (.bool (decide (xs = ys))) ∧ Grew w w' := by
  have HA := Lib.hid ha
  have HB := Lib.hid hb
  obtain ⟨A, ca, rfl, hca⟩ := ha.form
  obtain ⟨B, cb, rfl, hcb⟩ := hb.form
  clear ha hb
  by_cases hl : xs.length = ys.length
  · obtain ⟨n, HNN⟩ : ∃ n, Hid (xs.length = n) := ⟨_, Lib.hid rfl⟩
    have HNY : Hid (ys.length = n) := Lib.hid (hl.symm.trans HNN.out)
    have HL := Lib.hid hl
    rw [HNN.out] at hca hm ⊢
    rw [HNY.out] at hcb ⊢
    clear hl
    go_enter Try.func12, Try.ntmps12
    go_wp2_with fail
    go_loopw [5] (fun i wr => ∃ k : Nat, k ≤ n ∧ i = .int .i64 (k : Nat) ∧ Hid (∀ j, j < k → zi xs j = zi ys j) ∧ Hid (Grew w wr)) (fun i _ => n - (intOf i).toNat)
    case atStart => exact ⟨0, Nat.zero_le _, rfl, Lib.hid (fun j h => absurd h (Nat.not_lt_zero _)), Lib.hid (Grew.refl _)⟩
    case round =>
      obtain ⟨k, hk, rfl, HS, G⟩ := hrel
      by_cases hlt : k < n
      · obtain ⟨p, o, e1, hp, c1⟩ := (HA.out.grew G.out).at_ (i := k) (by rw [HNN.out]; exact hlt)
        obtain ⟨q, u, e2, hq, c2⟩ := (HB.out.grew G.out).at_ (i := k) (by rw [HNY.out]; exact hlt)
        subst e1 e2
        have hki : (k : Int) < n := by omega
        have e1 : IntKind.i64.wrap ((k : Int) + 1) = ((k + 1 : Nat) : Int) := by rw [IntWalk.i64_in _ (by omega)]; omega
        obtain ⟨x, hx⟩ : ∃ x, zi xs k = x := ⟨_, rfl⟩
        obtain ⟨y, hy⟩ : ∃ y, zi ys k = y := ⟨_, rfl⟩
        rw [hx] at c1
        rw [hy] at c2
        have HX := Lib.hid hx
        have HY := Lib.hid hy
        clear hx hy
        by_cases hxy : x = y
        · subst hxy
          go_upto_region 6 with fail
          go_quiet (fail)
          go_wp2_with fail
          go_roundw
          case rel => exact ⟨k + 1, by omega, by first | rfl | go_num, Lib.hid (fun j h => by
            by_cases e : j = k
            · subst e; rw [HX.out, HY.out]
            · exact HS.out j (by omega)), Lib.hid (G.out.drewN _)⟩
          case measure => simp [intOf]; omega
        · have hne : (x == y) = false := by rw [beq_eq_false_iff_ne]; exact hxy
          have HD : decide (xs = ys) = false := decide_eq_false (fun e => hxy (by rw [← HX.out, ← HY.out, e]))
          have HDD := Lib.hid HD
          clear HD
          go_upto_region 6 with fail
          go_quiet (fail)
          go_wp2_with fail
          go_ret
          exact ⟨by rw [HDD.out]; rfl, G.out.drewN _⟩
      · obtain rfl : k = n := by omega
        have HD : decide (xs = ys) = true := decide_eq_true (same_of HL.out (fun j h => HS.out j (by rw [← HNN.out]; exact h)))
        have HDD := Lib.hid HD
        clear HD
        go_wp2_with fail
        go_ret
        exact ⟨by rw [HDD.out]; rfl, G.out⟩
  · have HD : decide (xs = ys) = false := decide_eq_false (fun e => hl (by rw [e]))
    rw [HD]
    have hne : ((xs.length : Int) == ys.length) = false := by rw [beq_eq_false_iff_ne]; omega
    go_enter Try.func12, Try.ntmps12
    go_wp2_with fail
    go_ret
    exact ⟨rfl, Grew.refl _⟩
-- SAME]
end Go.Proofs.Ytinkmpndlikgfaa

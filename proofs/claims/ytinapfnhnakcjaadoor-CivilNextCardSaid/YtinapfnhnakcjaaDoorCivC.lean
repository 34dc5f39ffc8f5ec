/-
  Contracts of civil: the date of a number; numbers of dates; seconds and moments.
-/
import Derived.Test.YtinapfnhnakcjaaDoorCivB
import Derived.OwnWalk
namespace Go.Proofs.YtinapfnhnakcjaaDoor
open Go.RowKit
set_option linter.unusedVariables false

theorem civ_firstDay_one (y : Int) (w : World) (hy : 1900 ≤ y ∧ y ≤ 2200) (ht : Tab w) :
    Calls Tryd.prog 17 #[.int .i64 y, .int .i64 1] w fun e w' => e = .returned (.int .i64 (base y)) ∧ Grew w w' := by
  have := civ_firstDay y 1 w hy (by omega) ht
  rw [show base y + cum y (1 - 1) = base y by simp [cum]] at this
  exact this

set_option maxHeartbeats 1000000 in
theorem civ_date (n : Int) (w : World) (hn : 0 ≤ n ∧ n < 109573) (ht : Tab w) :
    Calls Tryd.prog 20 #[.int .i64 n] w fun e w' => ∃ (y : Int) (m : Nat), InMonth n y m ∧ e = .returned (.tuple #[.int .i64 y, .int .i64 (m : Nat), .int .i64 (n - (base y + cum y (m - 1)) + 1)]) ∧ Grew w w' := by
  have t1 : n.tdiv 366 = n / 366 := Int.tdiv_eq_ediv_of_nonneg hn.1
  obtain ⟨q, HQ⟩ : ∃ q, Hid (1900 + n / 366 = q) := ⟨_, Lib.hid rfl⟩
  have hq : 1900 ≤ q ∧ q ≤ 2199 := by have := HQ.out; omega
  have hq2 := Lib.hid (show base q ≤ n by have := HQ.out; have := base_le q (by omega); omega)
  go_enter Tryd.func20, Tryd.ntmps20
  go_wp2_with fail
  rw [HQ.out]
  clear HQ t1
  go_loopw [2] (fun a wr => ∃ y : Int, a = .int .i64 y ∧ 1900 ≤ y ∧ y ≤ 2199 ∧ Hid (base y ≤ n) ∧ Grew w wr) (fun a _ => (2200 - intOf a).toNat)
  case atStart => exact ⟨q, rfl, hq.1, hq.2, hq2, Grew.refl _⟩
  case round =>
    obtain ⟨y, rfl, hy0, hy1, hb, hg⟩ := hrel
    have H1 := fun w ht => Lib.hid (civ_firstDay_one (y + 1) w (by omega) ht)
    obtain ⟨B, HB⟩ : ∃ B, Hid (base (y + 1) = B) := ⟨_, Lib.hid rfl⟩
    have hBb : 0 ≤ B ∧ B ≤ 120000 := by have := HB.out; have := base_ge (y + 1) (by omega); have := base_le (y + 1) (by omega); omega
    rw [HB.out] at H1
    go_wp2_with fail
    refine (H1 _ (ht.grew hg)).out.mono ?_
    rintro e w1 ⟨rfl, g1⟩
    have hg := hg.trans g1
    go_wp2_with fail
    · have hle : B ≤ n := by assumption
      go_roundw
      case rel =>
        have hz : y ≠ 2199 := fun e => by
          subst e
          have := HB.out; rw [show (2199 : Int) + 1 = 2200 from rfl, base_2200] at this; omega
        exact ⟨y + 1, rfl, by omega, by omega, Lib.hid (by rw [HB.out]; exact hle), hg⟩
      case measure => simp [intOf]; omega
    · have hlt : n < B := by assumption
      have hB := hb.out
      have HN : Hid (n < base y + cum y 12) := Lib.hid (by rw [← base_next y ⟨hy0, hy1⟩, HB.out]; exact hlt)
      clear H1 hlt HB hBb hB
      go_loopw [3] (fun a wr => ∃ m : Nat, a = .int .i64 (m : Nat) ∧ 1 ≤ m ∧ m ≤ 12 ∧ Hid (n < base y + cum y m) ∧ Grew w wr) (fun a _ => (intOf a).toNat)
      case atStart => exact ⟨12, rfl, by omega, by omega, HN, hg⟩
      case round =>
        clear g1 hg
        obtain ⟨m, rfl, hm0, hm1, hN, hg⟩ := hrel
        have H1 := fun w ht => Lib.hid (civ_firstDay y m w (by omega) (by omega) ht)
        obtain ⟨F, HF⟩ : ∃ F, Hid (base y + cum y (m - 1) = F) := ⟨_, Lib.hid rfl⟩
        have hFb : 0 ≤ F ∧ F ≤ 120000 := by have := HF.out; have := base_ge y (by omega); have := base_le y (by omega); have := cum_le y (m - 1); omega
        rw [HF.out] at H1
        go_wp2_with fail
        refine (H1 _ (ht.grew hg)).out.mono ?_
        rintro e w2 ⟨rfl, g2⟩
        have hg := hg.trans g2
        go_wp2_with fail
        · have hlt : n < F := by assumption
          go_roundw
          case rel =>
            have hz : m ≠ 1 := fun e => by
              subst e
              have h1 := HF.out; have h2 := hb.out; simp [cum] at h1; omega
            exact ⟨m - 1, by congr 1; omega, by omega, by omega, Lib.hid (by rw [HF.out]; exact hlt), hg⟩
          case measure => simp [intOf]; omega
        · have hle : F ≤ n := by assumption
          refine (H1 _ (ht.grew hg)).out.mono ?_
          rintro e w3 ⟨rfl, g3⟩
          go_wp2_with fail
          go_ret3
          exact ⟨y, m, ⟨⟨hy0, hy1⟩, ⟨hm0, hm1⟩, by rw [HF.out]; exact hle, hN.out⟩, by rw [HF.out]; rfl, hg.trans g3⟩
end Go.Proofs.YtinapfnhnakcjaaDoor

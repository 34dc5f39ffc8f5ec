/-
  The program's fields: may be read; bytes among others; numbers.
-/
import Derived.Test.YtajgicliepenkaaDoorFldS
import Derived.Test.YtajgicliepenkaaDoorShelf
import Derived.StillTailTactics
import Derived.Shelf.Abstract
import Derived.Deep.LoopGhost
import Derived.Deep.QuietTactic
import Derived.BigQuiet
import Derived.KernelRfl
namespace Go.Proofs.YtajgicliepenkaaDoor
open Go.RowKit
set_option linter.unusedVariables false

theorem empty_of (s : ByteArray) (h : s.size = 0) : s = ⟨#[]⟩ := by
  obtain ⟨d⟩ := s
  have : d = #[] := Array.eq_empty_of_size_eq_zero h
  rw [this]
theorem is_empty (s : ByteArray) : s.toList.isEmpty = decide (s.size = 0) := by
  rw [Lib.toList_data, Bool.eq_iff_iff, List.isEmpty_iff_length_eq_zero, Array.length_toList, decide_eq_true_eq]
  exact Iff.rfl
/-- Bytes that stand in a text, each with what it is worth there. -/
structure Among (t : ByteArray) (p : Nat → Bool) (v : Nat → Nat) : Prop where
  yes : ∀ b, b < 256 → p b = true → Lib.indexByte t.data.toList b.toUInt8 = (v b : Nat)
  no : ∀ b, b < 256 → p b = false → Lib.indexByte t.data.toList b.toUInt8 = -1
theorem among_of (t : ByteArray) (p : Nat → Bool) (v : Nat → Nat) (h : (List.range 256).all (fun b => Lib.indexByte t.data.toList b.toUInt8 == (if p b then (v b : Int) else -1)) = true) : Among t p v := by
  rw [List.all_eq_true] at h
  refine ⟨fun b hb hp => ?_, fun b hb hp => ?_⟩
  · have := h b (List.mem_range.2 hb)
    rw [hp] at this
    simpa using this
  · have := h b (List.mem_range.2 hb)
    rw [hp] at this
    simpa using this
theorem among_dec : Among ⟨#[48, 49, 50, 51, 52, 53, 54, 55, 56, 57]⟩ isDig (fun b => b - 48) := among_of _ _ _ (by kernel_rfl)
theorem among_hex : Among ⟨#[48, 49, 50, 51, 52, 53, 54, 55, 56, 57, 65, 66, 67, 68, 69, 70]⟩ isHex hexv := among_of _ _ _ (by kernel_rfl)
theorem among_zero : Among ⟨#[48]⟩ (fun b => b == 48) (fun _ => 0) := among_of _ _ _ (by kernel_rfl)

theorem fld_read (s : ByteArray) (w : World) (hs : s.size ≤ 1000) : Calls Tryd.prog 63 #[.string s] w fun e w' => e = .returned (.int .i64 (readE (nat s) : Nat)) ∧ w = w' := by
  have hl := nat_length s
  unfold readE
  rw [hl]
  clear hl
  by_cases h0 : s.size = 0
  · rw [if_pos h0]
    have h0' := empty_of s h0
    subst h0'
    go_enter Tryd.func63, Tryd.ntmps63
    go_wp2_with fail
    go_ret
    exact ⟨rfl, rfl⟩
  · rw [if_neg h0]
    have h0' : s.toList.isEmpty = false := by rw [is_empty]; simpa using h0
    by_cases h1 : 20 < s.size
    · rw [if_pos h1]
      have h1' : (20 : Int) < s.size := by omega
      go_enter Tryd.func63, Tryd.ntmps63
      go_wp2_with fail
      go_ret
      exact ⟨rfl, rfl⟩
    · rw [if_neg h1]
      have h1' : ¬ (20 : Int) < s.size := by omega
      go_enter Tryd.func63, Tryd.ntmps63
      go_wp2_with fail
      go_ret
      exact ⟨rfl, rfl⟩

theorem boolInt (b : Nat) (hb : b < 256) : ((b : Nat) : Int).toNat.toUInt8 = b.toUInt8 := by rw [Int.toNat_natCast]
set_option maxHeartbeats 1000000 in
theorem fld_all (s t : ByteArray) (p : Nat → Bool) (v : Nat → Nat) (a : Addr) (w : World) (hs : s.size ≤ 1000) (ha : w.cell? a = some (.string t)) (D : Among t p v) :
    Calls Tryd.prog 75 #[.string s, .pointer (some a)] w fun e w' => e = .returned (.bool ((nat s).all p)) ∧ Grew w w' := by
  have hl := nat_length s
  have HA := fun j h w => Lib.hid (str_at s j h w)
  have HB := fun j => Lib.hid (nat_lt s j)
  have HALL := Lib.hid (all_iff (S := nat s) (p := p))
  have HL := Lib.hid hl
  have HD := Lib.hid D
  have HC : Hid (∀ w', Grew w w' → w'.cell? a = some (.string t)) := fun w' g => (g.cell (World.block_lt_of_cell? _ _ ha)).trans ha
  have HX := fun (c : Int) w' => Lib.hid (Tryd.strings_IndexByte t c w')
  clear hl D ha
  go_enter Tryd.func75, Tryd.ntmps75
  go_wp2_with fail
  go_loopw [4, 7] (fun x i wr => ∃ j : Nat, j ≤ s.size ∧ i = .int .i64 (j : Nat) ∧ Hid (∀ q : Nat, q < j → p (wd (nat s) q) = true) ∧ Hid (Grew w wr)) (fun _ i _ => s.size - (intOf i).toNat)
  case atStart => exact ⟨0, by omega, rfl, fun q hq => by omega, Grew.refl _⟩
  case round =>
    obtain ⟨j, hj, rfl, hM, hg⟩ := hrel
    by_cases hlt : j < s.size
    · have y := fun w => (HA j hlt w).out
      have m0 : (j : Int) < s.size := by omega
      have m1 : (0 : Int) ≤ j := by omega
      have hc := HC.out _ hg.out
      have hx : ∀ w', Hid _ := fun w' => HX (wd (nat s) j : Nat) w'
      have x256 := (HB j).out
      obtain ⟨c, hc256⟩ : ∃ c, wd (nat s) j = c := ⟨_, rfl⟩
      have hS : Hid (p c = true → ∀ q : Nat, q < j + 1 → p (wd (nat s) q) = true) := fun h q hq => by
        rcases Nat.lt_or_ge q j with h2 | h2
        · exact hM.out q h2
        · obtain rfl : q = j := by omega
          rw [hc256]; exact h
      rw [hc256] at y x256
      cases hd : p c
      · have H : ∀ w', Hid (Calls Tryd.prog 70 #[.string t, .int .u8 (c : Nat)] w' fun e w'' => e = .returned (.int .i64 (-1)) ∧ w'' = w') := fun w' => by
          have := (HX (c : Nat) w').out
          rwa [boolInt c x256, HD.out.no c x256 hd] at this
        have HF : Hid ((nat s).all p = false) := by
          show _ = _
          rw [← Bool.not_eq_true, HALL.out]
          exact fun h => by have := h j (by rw [HL.out]; exact hlt); rw [hc256, hd] at this; cases this
        clear hM hS HX HD HALL hd hc256 HA HB HC
        go_wp2_with fail
        go_quiet (first | (go_at_call 70; exact Calls.quiet_of_same ((H _).out.mono fun _ _ h => ⟨h.1, h.2⟩)))
        go_wp2_with fail
        go_ret
        exact ⟨by rw [HF.out]; rfl, (hg.out.drewN _)⟩
      · have H : ∀ w', Hid (Calls Tryd.prog 70 #[.string t, .int .u8 (c : Nat)] w' fun e w'' => e = .returned (.int .i64 (v c : Nat)) ∧ w'' = w') := fun w' => by
          have := (HX (c : Nat) w').out
          rwa [boolInt c x256, HD.out.yes c x256 hd] at this
        have hS2 := Lib.hid (hS.out hd)
        have hv : ¬ ((v c : Nat) : Int) < 0 := by omega
        clear hM hS HX HD HALL hd hc256 HA HB HC
        go_wp2_with fail
        go_quiet (first | (go_at_call 70; exact Calls.quiet_of_same ((H _).out.mono fun _ _ h => ⟨h.1, h.2⟩)))
        go_wp2_with fail
        go_roundw
        case rel => exact ⟨j + 1, by omega, by simp, hS2, hg.out.drewN _⟩
        case measure => simp [intOf]; omega
    · obtain rfl : j = s.size := by omega
      have HF : Hid ((nat s).all p = true) := by show _ = _; rw [HALL.out]; exact fun i hi => hM.out i (by rw [HL.out] at hi; exact hi)
      clear hM HX HD HALL HA HB HC
      go_wp2_with fail
      go_ret
      exact ⟨by rw [HF.out]; rfl, hg.out⟩
end Go.Proofs.YtajgicliepenkaaDoor

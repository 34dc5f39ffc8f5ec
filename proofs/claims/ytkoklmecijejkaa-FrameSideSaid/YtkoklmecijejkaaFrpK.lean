/-
  The program's frames: a ring that is looked at; one that is not there.
-/
import Derived.Test.YtkoklmecijejkaaFrpJ
import Derived.Test.YtkoklmecijejkaaRngJ
namespace Go.Proofs.Ytkoklmecijejkaa
open Go.RowKit
set_option linter.unusedVariables false

/-- The length and the room of a ring, asked of it: nothing turns. -/
theorem quiet_isMade (w : World) (g size first held : Nat) (ns : List Nat) (lost : Nat) (h : ProgAt w g size first held ns lost) :
    Calls Try.prog 21 #[.pointer (some ⟨g, 0, none⟩)] w fun e w' => e = .returned (.bool true) ∧ w = w' := by
  have c1 := h.c1
  have hs := h.hs
  have hz : 0 < size := by omega
  clear h
  go_enter Try.func21, Try.ntmps21
  go_wp2_with fail
  go_ret
  exact ⟨by simp, rfl⟩
theorem quiet_noMade (w : World) : Calls Try.prog 21 #[.pointer none] w fun e w' => e = .returned (.bool false) ∧ w = w' := by
  go_enter Try.func21, Try.ntmps21
  go_wp2_with fail
  go_ret
  exact ⟨rfl, rfl⟩
theorem quiet_Len (w : World) (g size first held : Nat) (ns : List Nat) (lost : Nat) (h : ProgAt w g size first held ns lost) :
    Calls Try.prog 17 #[.pointer (some ⟨g, 0, none⟩)] w fun e w' => e = .returned (.int .i64 held) ∧ w = w' := by
  have H := Lib.hid (quiet_isMade w g size first held ns lost h)
  have c3 := h.c3
  clear h
  go_enter Try.func17, Try.ntmps17
  go_wp2_with fail
  refine H.out.mono ?_
  rintro e w1 ⟨rfl, rfl⟩
  go_wp2_with fail
  go_ret
  exact ⟨rfl, rfl⟩
theorem quiet_Size (w : World) (g size first held : Nat) (ns : List Nat) (lost : Nat) (h : ProgAt w g size first held ns lost) :
    Calls Try.prog 39 #[.pointer (some ⟨g, 0, none⟩)] w fun e w' => e = .returned (.int .i64 size) ∧ w = w' := by
  have H := Lib.hid (quiet_isMade w g size first held ns lost h)
  have c3 := h.c1
  clear h
  go_enter Try.func39, Try.ntmps39
  go_wp2_with fail
  refine H.out.mono ?_
  rintro e w1 ⟨rfl, rfl⟩
  go_wp2_with fail
  go_ret
  exact ⟨rfl, rfl⟩
theorem quiet_noLen (w : World) : Calls Try.prog 17 #[.pointer none] w fun e w' => e = .returned (.int .i64 0) ∧ w = w' := by
  have H := fun w => Lib.hid (quiet_noMade w)
  go_enter Try.func17, Try.ntmps17
  go_wp2_with fail
  refine (H _).out.mono ?_
  rintro e w1 ⟨rfl, rfl⟩
  go_wp2_with fail
  go_ret
  exact ⟨rfl, rfl⟩
theorem quiet_noSize (w : World) : Calls Try.prog 39 #[.pointer none] w fun e w' => e = .returned (.int .i64 0) ∧ w = w' := by
  have H := fun w => Lib.hid (quiet_noMade w)
  go_enter Try.func39, Try.ntmps39
  go_wp2_with fail
  refine (H _).out.mono ?_
  rintro e w1 ⟨rfl, rfl⟩
  go_wp2_with fail
  go_ret
  exact ⟨rfl, rfl⟩

theorem looked_ring (v : Value) (F : Nat → Prop) (size : Nat) (L : List Nat) (lost : Nat) (w0 : World) (h0 : ProgR w0 v F size L lost) : Looked (fun w => ProgR w v F size L lost) v F size L where
  far := fun w w' G h g hG => ring_calls.far w w' v F G size L lost h g hG
  lt := fun w b h hb => ring_calls.lt w v F size L lost b h hb
  at_ := fun w k h hk => (ring_calls.at_ w v F size L lost (k : Int) h (by omega) trivial).mono (by
    rintro e w' ⟨rfl, g⟩
    refine ⟨?_, g⟩
    by_cases hc : k < L.length
    · rw [if_pos (by omega : (0 : Int) ≤ (k : Int) ∧ (k : Int) < (L.length : Int)), decide_eq_true (by omega : (0 : Int) ≤ (k : Int) ∧ (k : Int) < (L.length : Int)), decide_eq_true hc, Int.toNat_natCast]
    · rw [if_neg (by omega : ¬ ((0 : Int) ≤ (k : Int) ∧ (k : Int) < (L.length : Int))), decide_eq_false (by omega : ¬ ((0 : Int) ≤ (k : Int) ∧ (k : Int) < (L.length : Int))), decide_eq_false hc, show wd L k = 0 from by unfold wd; rw [List.getD_eq_getElem?_getD, List.getElem?_eq_none (by omega)]; rfl]
      rfl)
  ln := fun w h => ring_calls.len w v F size L lost h trivial
  sz := fun w h => ring_calls.size w v F size L lost h trivial
  bytes := (ring_calls.inv w0 v F size L lost h0).2.2
  ll := (ring_calls.inv w0 v F size L lost h0).2.1
  ls := (ring_calls.inv w0 v F size L lost h0).1.2
  p := by obtain ⟨g, first, e, _⟩ := h0; exact .inl ⟨g, e⟩
theorem quiet_ring (v : Value) (F : Nat → Prop) (size : Nat) (L : List Nat) (lost : Nat) : Quiet (fun w => ProgR w v F size L lost) v size L where
  ln := fun w ⟨g, first, e, _, h⟩ => by subst e; exact quiet_Len w g size first L.length L lost h
  sz := fun w ⟨g, first, e, _, h⟩ => by subst e; exact quiet_Size w g size first L.length L lost h
theorem looked_none : Looked (fun _ => True) (.pointer none) (fun _ => False) 0 [] where
  far := fun _ _ _ _ _ _ => trivial
  lt := fun _ _ _ h => h.elim
  at_ := fun w k _ hk => (ring_calls.nat w (k : Int) (by omega) trivial).mono (by rintro e w' ⟨rfl, g⟩; exact ⟨rfl, g⟩)
  ln := fun w _ => ring_calls.nlen w trivial
  sz := fun w _ => ring_calls.nsize w trivial
  bytes := Bytes.of_mem (by simp)
  ll := Nat.le_refl _
  ls := by omega
  p := .inr rfl
theorem quiet_none : Quiet (fun _ => True) (.pointer none) 0 [] where
  ln := fun w _ => quiet_noLen w
  sz := fun w _ => quiet_noSize w
end Go.Proofs.Ytkoklmecijejkaa

/-
  The program's fields: times of day.
-/
import Derived.Test.YtajgicliepenkaaDoorFlpG
namespace Go.Proofs.YtajgicliepenkaaDoor
open Go.RowKit
set_option linter.unusedVariables false

theorem newDay (w : World) (E : TypeId) : ∃ W, w.alloc (.cells #[.int .i64 0, .int .i64 0, .int .i64 0, .bool false] E) = W ∧ Grew w W ∧ FourAt W w.heap.size (.int .i64 0) (.int .i64 0) (.int .i64 0) (.bool false) :=
  ⟨_, rfl, (Grew.refl w).alloc _, FourAt.new w _ _ _ _ _⟩
theorem two_take (S : List Nat) (n k : Nat) (h : k + 2 ≤ n) : twoOf ((S.take n).drop 0) k = twoOf S k := by
  have e : ∀ i, i < n → wd ((S.take n).drop 0) i = wd S i := fun i hi => by
    unfold wd
    rw [List.drop_zero]
    simp [List.getD_eq_getElem?_getD, hi]
  unfold twoOf
  rw [e k (by omega), e (k + 1) (by omega)]
theorem six_ahead (s : ByteArray) (p : Nat) (hp : p ≤ s.size) (hd : digs (nat s) 0 p = true) :
    sixOf (s.extract 0 p) = if p = 6 then .tuple #[.int .i64 (twoOf (nat s) 0 : Nat), .int .i64 (twoOf (nat s) 2 : Nat), .int .i64 (twoOf (nat s) 4 : Nat), .bool true] else .tuple #[.int .i64 0, .int .i64 0, .int .i64 0, .bool false] := by
  have hl := nat_length s
  rw [all_cut (nat s) p (by omega), Bool.and_eq_true] at hd
  unfold sixOf
  rw [size_extract, nat_extract, hd.2]
  by_cases h : p = 6
  · subst h
    rw [if_pos ⟨by omega, rfl⟩, if_pos rfl, two_take _ _ 0 (by omega), two_take _ _ 2 (by omega), two_take _ _ 4 (by omega)]
  · rw [if_neg (fun hh => h (by omega)), if_neg h]
theorem fld_zeros (s : ByteArray) (a : Addr) (w : World) (hs : s.size ≤ 1000) (ha : w.cell? a = some (.string ⟨#[48]⟩)) :
    Calls Tryd.prog 75 #[.string s, .pointer (some a)] w fun e w' => e = .returned (.bool ((nat s).all (fun b => b == 48))) ∧ Grew w w' :=
  fld_all s _ _ _ a w hs ha among_zero
set_option maxRecDepth 100000 in
set_option maxHeartbeats 2000000 in
theorem fld_Clock (s : ByteArray) (w : World) (hs : s.size ≤ 1000) :
    Calls Tryd.prog 50 #[.string s] w fun e w' => e = .returned (dayVal (clockOf (nat s))) ∧ Grew w w' := by
  have hl := nat_length s
  have HR := fun w => Lib.hid (fld_read s w hs)
  have hpl := pointOf_le (nat s)
  rw [hl] at hpl
  have HW := Lib.hid (newDay w 24)
  obtain ⟨p, hp⟩ : ∃ p, pointOf (nat s) = p := ⟨_, rfl⟩
  have HP := fun w => fld_atPoint s p w hs hp
  rw [hp] at hpl
  by_cases hr : readE (nat s) = 0
  · have hB : Hid (clockOf (nat s) = if p ≠ 6 ∨ digs (nat s) 0 6 = false ∨ (6 < s.size ∧ digs (nat s) 7 s.size = false) then ((0, 0, 0, false), 5)
      else if 23 < twoOf (nat s) 0 ∨ 59 < twoOf (nat s) 2 ∨ 60 < twoOf (nat s) 4 then ((0, 0, 0, false), 5)
      else ((twoOf (nat s) 0, twoOf (nat s) 2, twoOf (nat s) 4, ((nat s).drop 7).all (fun b => b == 48)), 0)) := by show _ = _; unfold clockOf; rw [if_neg (by omega), hl, hp]
    rw [hr] at HR
    by_cases hb1 : digs (nat s) 0 p = false ∨ (p < s.size ∧ digs (nat s) (p + 1) s.size = false)
    · have hI : Hid (clockOf (nat s) = ((0, 0, 0, false), 5)) := by
        show _ = _
        by_cases h6 : p = 6
        · subst h6
          rw [hB.out, if_pos (.inr hb1)]
        · rw [hB.out, if_pos (.inl h6)]
      have e6 : atPt s p = .tuple #[.string ⟨#[]⟩, .string ⟨#[]⟩, .bool false] := by unfold atPt; rw [if_pos hb1]
      rw [e6] at HP
      replace HP := fun w => Lib.hid (HP w)
      clear hB hl hr hb1 e6 hp hpl
      go_enter Tryd.func50, Tryd.ntmps50
      go_upto_region 1 with fail
      obtain ⟨W, hW, gW, hA⟩ := HW.out
      rw [hW]
      have HA := Lib.hid hA
      have HG := Lib.hid gW
      clear hW HW hA gW
      go_upto_region 5 with (first | (go_at_call 63; refine (HR _).out.mono ?_; rintro e w1 ⟨rfl, rfl⟩) | (go_at_call 64; refine (HP _).out.mono ?_; rintro e w1 ⟨rfl, g1⟩; replace HA := Lib.hid (HA.out.grew g1); replace HG := Lib.hid (HG.out.trans g1); clear g1))
      obtain ⟨a, a0, a1, a2, a3, a4, a5, a6, a7⟩ := HA.out
      go_wp2_with fail
      refine bodyPost_ret (by simp [results, Tryd.results50, go_sem, a0, a1, a2, a3]; try rfl) rfl ?_
      exact ⟨by rw [hI.out]; rfl, HG.out.four _ (Nat.le_refl _) _ _ _ _⟩
    · have hd : digs (nat s) 0 p = true := by cases h : digs (nat s) 0 p; exact absurd (.inl h) hb1; rfl
      have e6 : atPt s p = .tuple #[.string (s.extract 0 p), .string (s.extract (p + 1) s.size), .bool true] := by unfold atPt; rw [if_neg hb1]
      rw [e6] at HP
      replace HP := fun w => Lib.hid (HP w)
      have hS := fun w => fld_six (s.extract 0 p) w (by rw [size_extract]; omega)
      rw [six_ahead s p hpl hd] at hS
      by_cases h6 : p = 6
      · rw [if_pos h6] at hS
        have HS := fun w => Lib.hid (hS w)
        have HO := fun w => Lib.hid (fld_allOf ⟨#[48]⟩ w)
        have HZ := fun a w h => fld_zeros (s.extract (p + 1) s.size) a w (by rw [size_extract]; omega) h
        have e7 : ((nat (s.extract (p + 1) s.size)).all fun b => b == 48) = ((nat s).drop 7).all (fun b => b == 48) := by
          rw [nat_extract, List.take_of_length_le (by omega), h6]
        rw [e7] at HZ
        have hB2 : Hid (clockOf (nat s) = if 23 < twoOf (nat s) 0 ∨ 59 < twoOf (nat s) 2 ∨ 60 < twoOf (nat s) 4 then ((0, 0, 0, false), 5)
            else ((twoOf (nat s) 0, twoOf (nat s) 2, twoOf (nat s) 4, ((nat s).drop 7).all (fun b => b == 48)), 0)) := by
          show _ = _
          rw [hB.out, if_neg (fun h => by
            subst h6
            rcases h with h | h | h
            · exact h rfl
            · exact hb1 (.inl h)
            · exact hb1 (.inr h))]
        replace HZ := fun a w h => Lib.hid (HZ a w h)
        generalize ((nat s).drop 7).all (fun b => b == 48) = wh at *
        generalize s.extract 0 p = A at *
        generalize s.extract (p + 1) s.size = B at *
        generalize twoOf (nat s) 0 = T0 at *
        generalize twoOf (nat s) 2 = T2 at *
        generalize twoOf (nat s) 4 = T4 at *
        clear hB hl hr hb1 e6 hp hpl hS hd e7 h6
        go_enter Tryd.func50, Tryd.ntmps50
        go_upto_region 1 with fail
        obtain ⟨W, hW, gW, hA⟩ := HW.out
        rw [hW]
        have HA := Lib.hid hA
        have HG := Lib.hid gW
        clear hW HW hA gW
        go_upto_region 8 with (first | (go_at_call 63; refine (HR _).out.mono ?_; rintro e w1 ⟨rfl, rfl⟩) | (go_at_call 64; refine (HP _).out.mono ?_; rintro e w1 ⟨rfl, g1⟩; replace HA := Lib.hid (HA.out.grew g1); replace HG := Lib.hid (HG.out.trans g1); clear g1) | (go_at_call 65; refine (HS _).out.mono ?_; rintro e w1 ⟨rfl, g1⟩; replace HA := Lib.hid (HA.out.grew g1); replace HG := Lib.hid (HG.out.trans g1); clear g1))
        by_cases hbad : 23 < T0 ∨ 59 < T2 ∨ 60 < T4
        · have hI : Hid (clockOf (nat s) = ((0, 0, 0, false), 5)) := by show _ = _; rw [hB2.out, if_pos hbad]
          have hcase : 23 < T0 ∨ (¬ 23 < T0 ∧ 59 < T2) ∨ (¬ 23 < T0 ∧ ¬ 59 < T2 ∧ 60 < T4) := by omega
          clear hB2 hbad
          obtain ⟨a, a0, a1, a2, a3, a4, a5, a6, a7⟩ := HA.out
          rcases hcase with h | ⟨h, h'⟩ | ⟨h, h', h''⟩
          all_goals
            go_wp2_with fail
            refine bodyPost_ret (by simp [results, Tryd.results50, go_sem, a0, a1, a2, a3]; try rfl) rfl ?_
            exact ⟨by rw [hI.out]; rfl, HG.out.four _ (Nat.le_refl _) _ _ _ _⟩
        · have hI : Hid (clockOf (nat s) = ((T0, T2, T4, wh), 0)) := by show _ = _; rw [hB2.out, if_neg hbad]
          have z1 : ¬ (23 : Int) < T0 := by omega
          have z2 : ¬ (59 : Int) < T2 := by omega
          have z3 : ¬ (60 : Int) < T4 := by omega
          clear hB2 hbad
          go_wp2_with (first | (go_at_call 66; refine (HO _).out.mono ?_; rintro e w1 ⟨q, rfl, hq, g1⟩; replace HA := Lib.hid (HA.out.grew g1); replace HG := Lib.hid (HG.out.trans g1); have HQ := Lib.hid hq; clear hq g1) | (go_at_call 75; (with_reducible refine (HZ q _ HQ.out).out.mono ?_); rintro e w1 ⟨rfl, g1⟩; replace HA := Lib.hid (HA.out.grew g1); replace HG := Lib.hid (HG.out.trans g1); clear g1; obtain ⟨a, a0, a1, a2, a3, a4, a5, a6, a7⟩ := HA.out))
          refine bodyPost_ret (by simp [results, Tryd.results50, go_sem, a0, a1, a2, a3]; try rfl) rfl ?_
          exact ⟨by rw [hI.out]; rfl, HG.out.four _ (Nat.le_refl _) _ _ _ _⟩
      · have hI : Hid (clockOf (nat s) = ((0, 0, 0, false), 5)) := by show _ = _; rw [hB.out, if_pos (.inl h6)]
        rw [if_neg h6] at hS
        have HS := fun w => Lib.hid (hS w)
        generalize s.extract 0 p = A at *
        generalize s.extract (p + 1) s.size = B at *
        clear hB hl hr hb1 e6 hp hpl hS hd h6
        go_enter Tryd.func50, Tryd.ntmps50
        go_upto_region 1 with fail
        obtain ⟨W, hW, gW, hA⟩ := HW.out
        rw [hW]
        have HA := Lib.hid hA
        have HG := Lib.hid gW
        clear hW HW hA gW
        go_upto_region 8 with (first | (go_at_call 63; refine (HR _).out.mono ?_; rintro e w1 ⟨rfl, rfl⟩) | (go_at_call 64; refine (HP _).out.mono ?_; rintro e w1 ⟨rfl, g1⟩; replace HA := Lib.hid (HA.out.grew g1); replace HG := Lib.hid (HG.out.trans g1); clear g1) | (go_at_call 65; refine (HS _).out.mono ?_; rintro e w1 ⟨rfl, g1⟩; replace HA := Lib.hid (HA.out.grew g1); replace HG := Lib.hid (HG.out.trans g1); clear g1))
        obtain ⟨a, a0, a1, a2, a3, a4, a5, a6, a7⟩ := HA.out
        go_wp2_with fail
        refine bodyPost_ret (by simp [results, Tryd.results50, go_sem, a0, a1, a2, a3]; try rfl) rfl ?_
        exact ⟨by rw [hI.out]; rfl, HG.out.four _ (Nat.le_refl _) _ _ _ _⟩
  · have hI : Hid (clockOf (nat s) = ((0, 0, 0, false), readE (nat s))) := by show _ = _; unfold clockOf; rw [if_pos hr]
    have hr9 := readE_le (nat s)
    have r0 : ¬ (readE (nat s) : Int) = 0 := by omega
    have r1 : ((readE (nat s) : Int) == 0) = false := by simpa using r0
    clear hl hr hp hpl HP
    generalize readE (nat s) = r at *
    go_enter Tryd.func50, Tryd.ntmps50
    go_upto_region 1 with fail
    obtain ⟨W, hW, gW, hA⟩ := HW.out
    rw [hW]
    obtain ⟨a, a0, a1, a2, a3, a4, a5, a6, a7⟩ := hA
    clear hW HW
    go_wp2_with (first | (go_at_call 63; refine (HR _).out.mono ?_; rintro e w1 ⟨rfl, rfl⟩))
    refine bodyPost_ret (by simp [results, Tryd.results50, go_sem, a0, a1, a2, a3]; try rfl) rfl ?_
    exact ⟨by rw [hI.out]; rfl, gW.four _ (Nat.le_refl _) _ _ _ _⟩
end Go.Proofs.YtajgicliepenkaaDoor

/-
  The program's fields: digits ahead of a point, and behind it.
-/
import Derived.Test.YtajgicliepenkaaDoorFlpC
namespace Go.Proofs.YtajgicliepenkaaDoor
open Go.RowKit
set_option linter.unusedVariables false

/-- What stands ahead of a point, and behind it, if both are digits. -/
def atPt (s : ByteArray) (p : Nat) : Value :=
  if digs (nat s) 0 p = false ∨ (p < s.size ∧ digs (nat s) (p + 1) s.size = false) then .tuple #[.string ⟨#[]⟩, .string ⟨#[]⟩, .bool false]
  else .tuple #[.string (s.extract 0 p), .string (s.extract (p + 1) s.size), .bool true]
theorem all_cut (S : List Nat) (p : Nat) (hp : p ≤ S.length) : digs S 0 p = (decide (0 < p) && ((S.take p).drop 0).all isDig) := by
  unfold digs; rw [List.drop_zero, Nat.sub_zero, List.drop_zero]
theorem all_cut2 (S : List Nat) (a : Nat) : digs S a S.length = (decide (a < S.length) && ((S.take S.length).drop a).all isDig) := by
  unfold digs; rw [List.take_of_length_le (by rw [List.length_drop]; exact Nat.le_refl _), List.take_of_length_le (Nat.le_refl _)]
theorem fld_digs (s : ByteArray) (a : Addr) (w : World) (hs : s.size ≤ 1000) (ha : w.cell? a = some (.string ⟨#[48, 49, 50, 51, 52, 53, 54, 55, 56, 57]⟩)) :
    Calls Tryd.prog 75 #[.string s, .pointer (some a)] w fun e w' => e = .returned (.bool ((nat s).all isDig)) ∧ Grew w w' :=
  fld_all s _ isDig (fun b => b - 48) a w hs ha among_dec
theorem kept_cell {w w' : World} {a : Addr} {v : Value} (h : w.cell? a = some v) (g : Grew w w') : w'.cell? a = some v := (g.cell (World.block_lt_of_cell? _ _ h)).trans h
set_option maxHeartbeats 1000000 in
theorem fld_atPoint (s : ByteArray) (p : Nat) (w : World) (hs : s.size ≤ 1000) (hp : pointOf (nat s) = p) :
    Calls Tryd.prog 64 #[.string s] w fun e w' => e = .returned (atPt s p) ∧ Grew w w' := by
  have hl := nat_length s
  have hle : p ≤ s.size := by rw [← hp, ← hl]; exact pointOf_le _
  have HC := fun w => fld_cut s 46 p w hs (by rw [← hp, point_place]; rfl)
  unfold parted at HC
  have HO := fun w => Lib.hid (fld_allOf ⟨#[48, 49, 50, 51, 52, 53, 54, 55, 56, 57]⟩ w)
  have HA := fun a w h => fld_digs (s.extract 0 p) a w (by rw [size_extract]; omega) h
  have HB := fun a w h => fld_digs (s.extract (p + 1) s.size) a w (by rw [size_extract]; omega) h
  have ea := is_empty (s.extract 0 p)
  have eb := is_empty (s.extract (p + 1) s.size)
  rw [size_extract] at ea eb
  rw [nat_extract] at HA HB
  have da := all_cut (nat s) p (by omega)
  have db := all_cut2 (nat s) (p + 1)
  rw [hl] at db
  have HR : Hid (atPt s p = if digs (nat s) 0 p = false ∨ (p < s.size ∧ digs (nat s) (p + 1) s.size = false) then .tuple #[.string ⟨#[]⟩, .string ⟨#[]⟩, .bool false]
    else .tuple #[.string (s.extract 0 p), .string (s.extract (p + 1) s.size), .bool true]) := rfl
  rw [da, db] at HR
  clear da db hp hl
  generalize s.extract 0 p = A at *
  generalize s.extract (p + 1) s.size = B at *
  have hy0 : ¬ p < s.size → (((nat s).take s.size).drop (p + 1)).all isDig = true := fun h => by rw [List.drop_eq_nil_of_le (by rw [List.length_take]; omega)]; rfl
  generalize (((nat s).take p).drop 0).all isDig = x at *
  generalize (((nat s).take s.size).drop (p + 1)).all isDig = y at *
  replace HC := fun w => Lib.hid (HC w)
  replace HA := fun a w h => Lib.hid (HA a w h)
  replace HB := fun a w h => Lib.hid (HB a w h)
  have G := Lib.hid (Grew.refl w)
  by_cases c0 : p = 0
  · have ea2 : A.toList.isEmpty = true := by rw [ea, decide_eq_true (by omega)]
    have HI : Hid (atPt s p = .tuple #[.string ⟨#[]⟩, .string ⟨#[]⟩, .bool false]) := by show _ = _; rw [HR.out, if_pos (.inl (by simp [c0]))]
    clear ea eb HR c0 HA HB
    generalize decide (p < s.size) = D at *
    go_enter Tryd.func64, Tryd.ntmps64
    go_wp2_with (first | (go_at_call 73; refine (HC _).out.mono ?_; rintro e w1 ⟨rfl, g1⟩; replace G := Lib.hid (G.out.trans g1); clear g1) | (go_at_call 66; refine (HO _).out.mono ?_; rintro e w1 ⟨q, rfl, hq, g1⟩; replace G := Lib.hid (G.out.trans g1); have HQ := Lib.hid hq; clear hq g1))
    go_ret3
    exact ⟨by rw [HI.out]; rfl, G.out⟩
  · have ea2 : A.toList.isEmpty = false := by rw [ea, decide_eq_false (by omega)]
    by_cases c1 : p < s.size ∧ s.size ≤ p + 1
    · have eb2 : B.toList.isEmpty = true := by rw [eb, decide_eq_true (by omega)]
      have HI : Hid (atPt s p = .tuple #[.string ⟨#[]⟩, .string ⟨#[]⟩, .bool false]) := by show _ = _; rw [HR.out, if_pos (.inr ⟨c1.1, by rw [decide_eq_false (by omega)]; rfl⟩)]
      rw [decide_eq_true c1.1] at HC
      clear ea eb HR c0 c1 HA HB
      go_enter Tryd.func64, Tryd.ntmps64
      go_wp2_with (first | (go_at_call 73; refine (HC _).out.mono ?_; rintro e w1 ⟨rfl, g1⟩; replace G := Lib.hid (G.out.trans g1); clear g1) | (go_at_call 66; refine (HO _).out.mono ?_; rintro e w1 ⟨q, rfl, hq, g1⟩; replace G := Lib.hid (G.out.trans g1); have HQ := Lib.hid hq; clear hq g1))
      go_ret3
      exact ⟨by rw [HI.out]; rfl, G.out⟩
    · have ed : decide (p < s.size) = true → B.toList.isEmpty = false := fun h => by have := of_decide_eq_true h; rw [eb, decide_eq_false (by omega)]
      cases x
      · have HI : Hid (atPt s p = .tuple #[.string ⟨#[]⟩, .string ⟨#[]⟩, .bool false]) := by show _ = _; rw [HR.out, if_pos (.inl (by simp))]
        clear ea eb HR c0 c1 HB
        cases hD : decide (p < s.size)
        · rw [hD] at HC
          clear hD ed
          go_enter Tryd.func64, Tryd.ntmps64
          go_wp2_with (first | (go_at_call 73; refine (HC _).out.mono ?_; rintro e w1 ⟨rfl, g1⟩; replace G := Lib.hid (G.out.trans g1); clear g1) | (go_at_call 66; refine (HO _).out.mono ?_; rintro e w1 ⟨q, rfl, hq, g1⟩; replace G := Lib.hid (G.out.trans g1); have HQ := Lib.hid hq; clear hq g1) | (go_at_call 75; (with_reducible refine (HA q _ HQ.out).out.mono ?_); rintro e w1 ⟨rfl, g1⟩; replace G := Lib.hid (G.out.trans g1); replace HQ := Lib.hid (kept_cell HQ.out g1); clear g1))
          go_ret3
          exact ⟨by rw [HI.out]; rfl, G.out⟩
        · have eb2 := ed hD
          rw [hD] at HC
          clear hD ed
          go_enter Tryd.func64, Tryd.ntmps64
          go_wp2_with (first | (go_at_call 73; refine (HC _).out.mono ?_; rintro e w1 ⟨rfl, g1⟩; replace G := Lib.hid (G.out.trans g1); clear g1) | (go_at_call 66; refine (HO _).out.mono ?_; rintro e w1 ⟨q, rfl, hq, g1⟩; replace G := Lib.hid (G.out.trans g1); have HQ := Lib.hid hq; clear hq g1) | (go_at_call 75; (with_reducible refine (HA q _ HQ.out).out.mono ?_); rintro e w1 ⟨rfl, g1⟩; replace G := Lib.hid (G.out.trans g1); replace HQ := Lib.hid (kept_cell HQ.out g1); clear g1))
          go_ret3
          exact ⟨by rw [HI.out]; rfl, G.out⟩
      · cases hy : y
        · have hlt : p < s.size := by
            rcases Nat.lt_or_ge p s.size with h | h
            · exact h
            · have := hy0 (by omega); rw [hy] at this; cases this
          have HI : Hid (atPt s p = .tuple #[.string ⟨#[]⟩, .string ⟨#[]⟩, .bool false]) := by show _ = _; rw [HR.out, if_pos (.inr ⟨hlt, by rw [hy]; simp⟩)]
          have hD := decide_eq_true hlt
          have eb2 := ed hD
          rw [hy] at HB
          rw [hD] at HC
          clear hD ed hy ea eb HR c0 c1 hy0 hlt
          go_enter Tryd.func64, Tryd.ntmps64
          go_wp2_with (first | (go_at_call 73; refine (HC _).out.mono ?_; rintro e w1 ⟨rfl, g1⟩; replace G := Lib.hid (G.out.trans g1); clear g1) | (go_at_call 66; refine (HO _).out.mono ?_; rintro e w1 ⟨q, rfl, hq, g1⟩; replace G := Lib.hid (G.out.trans g1); have HQ := Lib.hid hq; clear hq g1) | (go_at_call 75; first | ((with_reducible refine (HA q _ HQ.out).out.mono ?_); rintro e w1 ⟨rfl, g1⟩; replace G := Lib.hid (G.out.trans g1); replace HQ := Lib.hid (kept_cell HQ.out g1); clear g1) | ((with_reducible refine (HB q _ HQ.out).out.mono ?_); rintro e w1 ⟨rfl, g1⟩; replace G := Lib.hid (G.out.trans g1); replace HQ := Lib.hid (kept_cell HQ.out g1); clear g1)))
          go_ret3
          exact ⟨by rw [HI.out]; rfl, G.out⟩
        · have HI : Hid (atPt s p = .tuple #[.string A, .string B, .bool true]) := by show _ = _; rw [HR.out, if_neg (by rw [hy]; simp; omega)]
          rw [hy] at HB
          clear hy ea eb HR c0 c1
          cases hD : decide (p < s.size)
          · rw [hD] at HC
            clear hD ed
            go_enter Tryd.func64, Tryd.ntmps64
            go_wp2_with (first | (go_at_call 73; refine (HC _).out.mono ?_; rintro e w1 ⟨rfl, g1⟩; replace G := Lib.hid (G.out.trans g1); clear g1) | (go_at_call 66; refine (HO _).out.mono ?_; rintro e w1 ⟨q, rfl, hq, g1⟩; replace G := Lib.hid (G.out.trans g1); have HQ := Lib.hid hq; clear hq g1) | (go_at_call 75; first | ((with_reducible refine (HA q _ HQ.out).out.mono ?_); rintro e w1 ⟨rfl, g1⟩; replace G := Lib.hid (G.out.trans g1); replace HQ := Lib.hid (kept_cell HQ.out g1); clear g1) | ((with_reducible refine (HB q _ HQ.out).out.mono ?_); rintro e w1 ⟨rfl, g1⟩; replace G := Lib.hid (G.out.trans g1); replace HQ := Lib.hid (kept_cell HQ.out g1); clear g1)))
            go_ret3
            exact ⟨by rw [HI.out]; rfl, G.out⟩
          · have eb2 := ed hD
            rw [hD] at HC
            clear hD ed
            go_enter Tryd.func64, Tryd.ntmps64
            go_wp2_with (first | (go_at_call 73; refine (HC _).out.mono ?_; rintro e w1 ⟨rfl, g1⟩; replace G := Lib.hid (G.out.trans g1); clear g1) | (go_at_call 66; refine (HO _).out.mono ?_; rintro e w1 ⟨q, rfl, hq, g1⟩; replace G := Lib.hid (G.out.trans g1); have HQ := Lib.hid hq; clear hq g1) | (go_at_call 75; first | ((with_reducible refine (HA q _ HQ.out).out.mono ?_); rintro e w1 ⟨rfl, g1⟩; replace G := Lib.hid (G.out.trans g1); replace HQ := Lib.hid (kept_cell HQ.out g1); clear g1) | ((with_reducible refine (HB q _ HQ.out).out.mono ?_); rintro e w1 ⟨rfl, g1⟩; replace G := Lib.hid (G.out.trans g1); replace HQ := Lib.hid (kept_cell HQ.out g1); clear g1)))
            go_ret3
            exact ⟨by rw [HI.out]; rfl, G.out⟩
end Go.Proofs.YtajgicliepenkaaDoor

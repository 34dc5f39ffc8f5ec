/-
  The document's UBX messages: the same messages; a payload written.
-/
import Derived.Test.YtjjpfbdcfifofaaUbrC
import Derived.Test.YtjjpfbdcfifofaaUbxN
import Derived.OwnWalk
namespace Go.Proofs.Ytjjpfbdcfifofaa
open Go.RowKit
set_option linter.unusedVariables false

-- [SAME
set_option maxRecDepth 100000 in
set_option maxHeartbeats 4000000 in
theorem ref12_Same (a b c d : Nat) (v1 v2 : Value) (xs ys : List Int) (w : World) (h1 : RowZ .i64 w v1 xs) (h2 : RowZ .i64 w v2 ys) (hl : xs.length ≤ 100000) :
    Calls Try.prog 19 #[.agg #[.int .u8 (a : Nat), .int .u8 (b : Nat), v1], .agg #[.int .u8 (c : Nat), .int .u8 (d : Nat), v2]] w fun e w' => e = .returned (.bool (decide (a = c) && decide (b = d) && decide (xs = ys))) ∧ Grew w w' := by
  have HA := Lib.hid h1
  have HB := Lib.hid h2
  obtain ⟨A1, c1, rfl, _⟩ := h1.form
  obtain ⟨A2, c2, rfl, _⟩ := h2.form
  clear h1 h2
  obtain ⟨r, hr⟩ : ∃ r, (decide (a = c) && decide (b = d) && decide (xs = ys)) = r := ⟨_, rfl⟩
  rw [hr]
  have HR := Lib.hid hr
  clear hr
  go_enter Try.func19, Try.ntmps19
  go_upto_region 1 with fail
  obtain ⟨W, hW, g0, T0⟩ := three_new w (.int .u8 (a : Nat)) (.int .u8 (b : Nat)) (.slice A1 xs.length c1) 53
  have hsz : W.heap.size = w.heap.size + 1 := by rw [← hW]; simp
  rw [hW]
  clear hW
  obtain ⟨V, hV, gV, TV⟩ := three_new W (.int .u8 (c : Nat)) (.int .u8 (d : Nat)) (.slice A2 ys.length c2) 53
  rw [hV]
  rw [hsz] at TV
  clear hV hsz
  have T1 := Lib.hid (T0.grew gV)
  have T2 := Lib.hid TV
  have G := Lib.hid (g0.trans gV)
  obtain ⟨_, s0, s1, s2, _, _, _⟩ := T0.grew gV
  obtain ⟨_, u0, u1, u2, _, _, _⟩ := TV
  clear T0 g0 gV
  by_cases ha : a = c
  · subst ha
    by_cases hb : b = d
    · subst hb
      by_cases hlen : xs.length = ys.length
      · have i1 : (xs.length : Int) = ys.length := by omega
        go_wp2_with fail
        go_loopg [5] (xs.length) (fun kx s wr => ∃ i : Nat, i + kx = xs.length ∧ s = .int .i64 i ∧ Hid (∀ j, j < i → zi xs j = zi ys j) ∧ Hid (Grew V wr))
        case atStart => exact ⟨0, by omega, rfl, Lib.hid (fun j hj => absurd hj (by omega)), Lib.hid (Grew.refl _)⟩
        case round =>
          obtain ⟨i, hi, rfl, hsame, hg⟩ := hrel
          obtain ⟨_, s0, s1, s2, _, _, _⟩ := T1.out.grew hg.out
          obtain ⟨_, u0, u1, u2, _, _, _⟩ := T2.out.grew hg.out
          by_cases hlt : i < xs.length
          · obtain ⟨b1, o1, rfl, hb1, hx⟩ := HA.out.at_ (i := i) hlt
            obtain ⟨b2, o2, rfl, hb2, hy⟩ := HB.out.at_ (i := i) (by omega)
            have gg := G.out.trans hg.out
            have hx' := (gg.cell (p := ⟨b1, o1 + i, none⟩) hb1).trans hx
            have hy' := (gg.cell (p := ⟨b2, o2 + i, none⟩) hb2).trans hy
            clear hx hy
            have hlt2 : i < ys.length := by omega
            by_cases he : zi xs i = zi ys i
            · rw [← he] at hy'
              have hs1 : Hid (∀ j, j < i + 1 → zi xs j = zi ys j) := Lib.hid (fun j hj => if e : j = i then e ▸ he else hsame.out j (by omega))
              clear he
              generalize zi xs i = x at *
              go_wp2_with fail
              go_region
              all_goals
                go_wp2_with fail
                go_roundg (xs.length - (i + 1))
                case measure => omega
                case rel => exact ⟨i + 1, by omega, by go_num, hs1, Lib.hid (hg.out.drew)⟩
            · have hne : xs ≠ ys := fun e => he (by rw [e])
              have hrf : Hid (r = false) := Lib.hid (by rw [← HR.out, decide_eq_false hne]; simp)
              generalize zi xs i = x at *
              generalize zi ys i = y at *
              go_wp2_with fail
              go_region
              all_goals
                go_wp2_with fail
                go_ret
                exact ⟨by rw [hrf.out]; rfl, G.out.trans (hg.out.drew)⟩
          · obtain rfl : i = xs.length := by omega
            have heq : xs = ys := ext_zi hlen (fun j hj => hsame.out j hj)
            have hrf : Hid (r = true) := Lib.hid (by rw [← HR.out, decide_eq_true heq]; simp)
            have i2 : ¬ ys.length < ys.length := by omega
            clear hsame heq
            go_wp2_with fail
            go_ret
            exact ⟨by rw [hrf.out]; rfl, G.out.trans hg.out⟩
      · have hne : xs ≠ ys := fun e => hlen (by rw [e])
        have hrf : Hid (r = false) := Lib.hid (by rw [← HR.out, decide_eq_false hne]; simp)
        have i1 : ¬ (xs.length : Int) = ys.length := by omega
        go_wp2_with fail
        go_ret
        exact ⟨by rw [hrf.out]; rfl, G.out⟩
    · have hrf : Hid (r = false) := Lib.hid (by rw [← HR.out, decide_eq_false hb]; simp)
      have hb' : ¬ (b : Int) = d := by omega
      go_wp2_with fail
      go_ret
      exact ⟨by rw [hrf.out]; rfl, G.out⟩
  · have hrf : Hid (r = false) := Lib.hid (by rw [← HR.out, decide_eq_false ha]; simp)
    have ha' : ¬ (a : Int) = c := by omega
    go_wp2_with fail
    go_ret
    exact ⟨by rw [hrf.out]; rfl, G.out⟩
-- SAME]
-- [PAYD
/-- The number whose bytes are laid. -/
def upZ (z : Int) (m : Nat) : Int := if z < 0 then z + ((256 ^ m : Nat) : Int) else z
theorem upZ_byte (z : Int) (m k : Nat) (hk : k < m) : upZ z m / ((256 ^ k : Nat) : Int) % 256 = (byteZ z k : Nat) := by
  have hpos : (0 : Int) < ((256 ^ k : Nat) : Int) := by have := Nat.pow_pos (n := k) (show 0 < 256 by decide); omega
  have e : ((256 ^ m : Nat) : Int) = ((256 ^ k : Nat) : Int) * (((256 ^ (m - k) : Nat)) : Int) := by
    rw [← Int.natCast_mul, ← Nat.pow_add, show k + (m - k) = m by omega]
  have e2 : 256 ^ (m - k) % 256 = 0 := by
    obtain ⟨j, hj⟩ : ∃ j, m - k = j + 1 := ⟨m - k - 1, by omega⟩
    rw [hj, Nat.pow_succ]; omega
  unfold byteZ upZ
  split
  · rw [e, Int.add_mul_ediv_left _ _ (by omega)]
    omega
  · omega
theorem upZ_fits {z : Int} {m : Nat} {neg : Bool} (hm : 0 < m) (h : fitsZ z (if neg then -(m : Int) else (m : Int)) = true) : 0 ≤ upZ z m ∧ upZ z m < ((256 ^ m : Nat) : Int) := by
  have he := pow_even m hm
  unfold fitsZ at h
  unfold upZ
  cases neg
  · simp only [Bool.false_eq_true, if_false] at h
    rw [if_neg (by omega)] at h
    simp only [decide_eq_true_eq, Int.natAbs_natCast] at h
    rw [if_neg (by omega)]
    exact h
  · simp only [if_true] at h
    rw [if_pos (by omega)] at h
    simp only [decide_eq_true_eq, Int.natAbs_neg, Int.natAbs_natCast] at h
    generalize 256 ^ m = q at *
    split <;> omega
theorem div_step (V : Int) (k : Nat) (h : 0 ≤ V) : (V / ((256 ^ k : Nat) : Int)).tdiv 256 = V / ((256 ^ (k + 1) : Nat) : Int) := by
  have hpos : (0 : Int) ≤ ((256 ^ k : Nat) : Int) := Int.natCast_nonneg _
  rw [Int.tdiv_eq_ediv_of_nonneg (Int.ediv_nonneg h hpos), Int.ediv_ediv_of_nonneg hpos, Nat.pow_succ, Int.natCast_mul]
  rfl
def PayR (r : List Nat × Nat) (w : World) (e : Ending) (w' : World) : Prop :=
  ∃ v, e = .returned (.tuple #[v, .int .i64 (r.2 : Nat)]) ∧ Row .u8 w' v r.1 ∧ (0 < r.1.length → ∀ x, v.ownBlock = some x → w.heap.size ≤ x) ∧ Grew w w'
theorem payR_no {er : Nat} {w w' : World} (g : Grew w w') : PayR ([], er) w (.returned (.tuple #[.slice none 0 0, .int .i64 (er : Nat)])) w' :=
  ⟨_, rfl, Row.nil _ _, (fun q => absurd q (by simp)), g⟩
-- PAYD]
end Go.Proofs.Ytjjpfbdcfifofaa

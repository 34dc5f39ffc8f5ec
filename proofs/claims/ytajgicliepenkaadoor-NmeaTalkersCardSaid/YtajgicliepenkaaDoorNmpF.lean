/-
  The program's sentences: angles, places.
-/
import Derived.Test.YtajgicliepenkaaDoorNmpD
import Derived.Test.YtajgicliepenkaaDoorNmpE
namespace Go.Proofs.YtajgicliepenkaaDoor
open Go.RowKit
set_option linter.unusedVariables false

set_option maxHeartbeats 2000000 in
theorem n_angle (x : ByteArray) (d most : Nat) (w : World) (hs : x.size ≤ 1000) (hd : d ≤ 10) (hm : most ≤ 1000) :
    Calls Tryd.prog 67 #[.string x, .int .i64 (d : Nat), .int .i64 (most : Nat)] w fun e w' => e = .returned (.tuple #[.int .i64 (angOf (nat x) d most).1, .int .i64 ((angOf (nat x) d most).2 : Nat)]) ∧ Grew w w' := by
  have hl := nat_length x
  have G := Lib.hid (Grew.refl w)
  by_cases h0 : x.size = 0
  · have hV : Hid (angOf (nat x) d most = (0, 7)) := by show _ = _; unfold angOf; rw [if_pos (by omega)]
    have h0' := empty_of x h0
    subst h0'
    clear hl
    go_enter Tryd.func67, Tryd.ntmps67
    go_wp2_with fail
    go_ret2
    exact ⟨by rw [hV.out]; rfl, G.out⟩
  · have h0' : x.toList.isEmpty = false := by rw [is_empty]; simpa using h0
    obtain ⟨k, hk⟩ : ∃ k, min d x.size = k := ⟨_, rfl⟩
    have hU : angOf (nat x) d most = if (intAns ((nat x).take k) 0 most).2 ≠ 0 then (0, 5)
      else if (minOf ((nat x).drop k)).2 ≠ 0 ∨ (most : Int) * 6000000 < (intAns ((nat x).take k) 0 most).1 * 6000000 + (minOf ((nat x).drop k)).1 then (0, 5)
      else ((intAns ((nat x).take k) 0 most).1 * 6000000 + (minOf ((nat x).drop k)).1, 0) := by
      unfold angOf
      rw [if_neg (by omega), hl, hk]
    have hb1 := int_in ((nat x).take k) 0 most (by omega)
    have hb2 := min_in ((nat x).drop k) (fun i => by rw [← drop_nat]; exact nat_lt _ i)
    have HI := fun w => fld_Int (x.extract 0 k) 0 most w (by rw [size_extract]; omega) (by decide) (by omega)
    rw [take_nat] at HI
    have HM := fun w => r_minutes (x.extract k x.size) w (by rw [size_extract]; omega)
    rw [drop_nat] at HM
    have kx : (k : Int) ≤ x.size := by omega
    have k0 : (0 : Int) ≤ k := by omega
    generalize intAns ((nat x).take k) 0 most = r at *
    generalize minOf ((nat x).drop k) = q at *
    obtain ⟨r1, r2⟩ := r
    obtain ⟨q1, q2⟩ := q
    simp only at hb1 hb2 hU HI HM
    replace HI := fun w => Lib.hid (HI w)
    replace HM := fun w => Lib.hid (HM w)
    have hmin : min (d : Int) (x.size : Int) = (k : Int) := by omega
    clear hl hk h0
    by_cases hr : r2 = 0
    · subst hr
      rw [if_neg (by simp)] at hU
      by_cases hq : q2 = 0
      · subst hq
        have m1 : IntKind.i64.wrap (r1 * 6000000) = r1 * 6000000 := IntWalk.i64_in _ (by omega)
        have m2 : IntKind.i64.wrap (r1 * 6000000 + q1) = r1 * 6000000 + q1 := IntWalk.i64_in _ (by omega)
        have m3 : IntKind.i64.wrap ((most : Int) * 6000000) = (most : Int) * 6000000 := IntWalk.i64_in _ (by omega)
        by_cases ho : (most : Int) * 6000000 < r1 * 6000000 + q1
        · rw [if_pos (.inr ho)] at hU
          have HV := Lib.hid hU
          clear hU hb1 hb2
          go_enter Tryd.func67, Tryd.ntmps67
          go_wp2_with (first | (go_at_call 55; refine (HI _).out.mono ?_; rintro e w1 ⟨rfl, g1⟩; replace G := Lib.hid (G.out.trans g1); clear g1) | (go_at_call 76; refine (HM _).out.mono ?_; rintro e w1 ⟨rfl, g1⟩; replace G := Lib.hid (G.out.trans g1); clear g1))
          go_ret2
          exact ⟨by rw [HV.out]; rfl, G.out⟩
        · rw [if_neg (by rintro (h | h); exact h rfl; exact ho h)] at hU
          have HV := Lib.hid hU
          clear hU hb1 hb2
          go_enter Tryd.func67, Tryd.ntmps67
          go_wp2_with (first | (go_at_call 55; refine (HI _).out.mono ?_; rintro e w1 ⟨rfl, g1⟩; replace G := Lib.hid (G.out.trans g1); clear g1) | (go_at_call 76; refine (HM _).out.mono ?_; rintro e w1 ⟨rfl, g1⟩; replace G := Lib.hid (G.out.trans g1); clear g1))
          go_ret2
          exact ⟨by rw [HV.out]; rfl, G.out⟩
      · rw [if_pos (.inl hq)] at hU
        have HV := Lib.hid hU
        have y0 : ((q2 : Int) != 0) = true := by simp; omega
        have y1 : ¬ (q2 : Int) = 0 := by omega
        clear hU hb1 hb2 hq
        go_enter Tryd.func67, Tryd.ntmps67
        go_wp2_with (first | (go_at_call 55; refine (HI _).out.mono ?_; rintro e w1 ⟨rfl, g1⟩; replace G := Lib.hid (G.out.trans g1); clear g1) | (go_at_call 76; refine (HM _).out.mono ?_; rintro e w1 ⟨rfl, g1⟩; replace G := Lib.hid (G.out.trans g1); clear g1))
        go_ret2
        exact ⟨by rw [HV.out]; rfl, G.out⟩
    · rw [if_pos hr] at hU
      have HV := Lib.hid hU
      have y0 : ((r2 : Int) != 0) = true := by simp; omega
      have y1 : ¬ (r2 : Int) = 0 := by omega
      clear hU hb1 hb2 hr
      go_enter Tryd.func67, Tryd.ntmps67
      go_wp2_with (first | (go_at_call 55; refine (HI _).out.mono ?_; rintro e w1 ⟨rfl, g1⟩; replace G := Lib.hid (G.out.trans g1); clear g1))
      go_ret2
      exact ⟨by rw [HV.out]; rfl, G.out⟩
section
variable {w w' : World} {S n c E X : Nat} {bs : List ByteArray} {s : Rs}
set_option maxHeartbeats 1000000 in
theorem r_angle (h : Rd w S n c bs E X s) (j : Nat) (x : ByteArray) (hx : bs[j]? = some x) (d most : Nat) (hd : d ≤ 10) (hm : most ≤ 1000) :
    Calls Tryd.prog 52 #[rv S n c E, .int .i64 (j : Nat), .int .i64 (d : Nat), .int .i64 (most : Nat)] w
      (Rdt w S n c bs E X (s.1, s.2 || badE (angOf (nat x) d most).2) (.tuple #[.int .i64 (angOf (nat x) d most).1, .bool ((angOf (nat x) d most).2 == 0)])) := by
  obtain ⟨W, hW, gW, ltW, d0, d1⟩ := boxR w S n c E
  obtain ⟨j0, j1, j2, hs⟩ := h.at_ hx
  have hc := (h.grew gW).fields j x hx
  have HI := fun w => Lib.hid (n_angle x d most w hs hd hm)
  have HT := fun w' (g : Grew w w') => Lib.hid (r_there (h.grew g) _ (ang_err (nat x) d most))
  unfold Rdt at HT
  have G := Lib.hid gW
  clear h gW
  generalize angOf (nat x) d most = r at *
  unfold rv at HT ⊢
  go_enter Tryd.func52, Tryd.ntmps52
  go_upto_region 1 with fail
  go_wp2_with (first | (go_at_call 67; refine (HI _).out.mono ?_; rintro e w1 ⟨rfl, g1⟩; have e0 := (g1.cell (p := ⟨w.heap.size, 0, none⟩) ltW).trans d0; have e1 := (g1.cell (p := ⟨w.heap.size, 1, none⟩) ltW).trans d1; replace G := Lib.hid (G.out.trans g1); clear g1) | (go_at_call 51; refine (HT _ G.out).out.mono ?_; rintro e w2 ⟨rfl, hh, gg⟩))
  go_ret2
  exact ⟨rfl, hh, (Far.of_grew G.out).trans gg⟩
end
end Go.Proofs.YtajgicliepenkaaDoor

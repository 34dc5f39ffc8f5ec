/-
  The program's sentences: a reader's fields: times, dates, numbers, letters.
-/
import Derived.Test.YtajgicliepenkaaDoorNmpA
namespace Go.Proofs.YtajgicliepenkaaDoor
open Go.RowKit
set_option linter.unusedVariables false

theorem int_err (S : List Nat) (l m : Int) : (intAns S l m).2 < 1000 := by
  have := readE_le S
  unfold intAns
  repeat' split
  all_goals simp
  all_goals omega
theorem fixed_err (S : List Nat) (p : Int) : (fixedOf S p).2 < 1000 := by
  have := readE_le S
  unfold fixedOf
  repeat' split
  all_goals simp
  all_goals omega
theorem clock_err (S : List Nat) : (clockOf S).2 < 1000 := by
  have := readE_le S
  unfold clockOf
  repeat' split
  all_goals simp
  all_goals omega
theorem date_err (S : List Nat) : (dateOf S).2 < 1000 := by
  have := readE_le S
  unfold dateOf
  repeat' split
  all_goals simp
  all_goals omega
theorem one_err (S O : List Nat) : (oneOf S O).2 < 1000 := by
  have := readE_le S
  unfold oneOf
  repeat' split
  all_goals simp
  all_goals omega
theorem one_place (S O : List Nat) : (oneOf S O).1 ≤ O.length := by
  unfold oneOf
  repeat' split
  all_goals simp
  omega
section
variable {w w' : World} {S n c E X : Nat} {bs : List ByteArray} {s : Rs}
theorem Rd.at_ (h : Rd w S n c bs E X s) {j : Nat} {x : ByteArray} (hx : bs[j]? = some x) : (j : Int) < n ∧ (0 : Int) ≤ j ∧ (j : Int) < c ∧ x.size ≤ 1000 := by
  have h1 := (List.getElem?_eq_some_iff.1 hx).1
  have h2 := h.len
  have h3 := h.cap
  exact ⟨by omega, by omega, by omega, h.small j x hx⟩

set_option maxHeartbeats 1000000 in
theorem r_number (h : Rd w S n c bs E X s) (j : Nat) (x : ByteArray) (hx : bs[j]? = some x) (l m : Int) (h1 : -9223372036854775808 ≤ l ∧ l ≤ 9223372036854775807) (h2 : -9223372036854775808 ≤ m ∧ m ≤ 9223372036854775807) :
    Calls Tryd.prog 43 #[rv S n c E, .int .i64 (j : Nat), .int .i64 l, .int .i64 m] w
      (Rdt w S n c bs E X (s.1, s.2 || badE (intAns (nat x) l m).2) (.tuple #[.int .i64 (intAns (nat x) l m).1, .bool ((intAns (nat x) l m).2 == 0)])) := by
  obtain ⟨W, hW, gW, ltW, d0, d1⟩ := boxR w S n c E
  obtain ⟨j0, j1, j2, hs⟩ := h.at_ hx
  have hc := (h.grew gW).fields j x hx
  have HI := fun w => Lib.hid (fld_Int x l m w hs h1 h2)
  have HT := fun w' (g : Grew w w') => Lib.hid (r_there (h.grew g) _ (int_err (nat x) l m))
  unfold Rdt at HT
  have G := Lib.hid gW
  clear h gW
  generalize intAns (nat x) l m = r at *
  unfold rv at HT ⊢
  go_enter Tryd.func43, Tryd.ntmps43
  go_upto_region 1 with fail
  go_wp2_with (first | (go_at_call 55; refine (HI _).out.mono ?_; rintro e w1 ⟨rfl, g1⟩; have e0 := (g1.cell (p := ⟨w.heap.size, 0, none⟩) ltW).trans d0; have e1 := (g1.cell (p := ⟨w.heap.size, 1, none⟩) ltW).trans d1; replace G := Lib.hid (G.out.trans g1); clear g1) | (go_at_call 51; refine (HT _ G.out).out.mono ?_; rintro e w2 ⟨rfl, hh, gg⟩))
  go_ret2
  exact ⟨rfl, hh, (Far.of_grew G.out).trans gg⟩
set_option maxHeartbeats 1000000 in
theorem r_letter (h : Rd w S n c bs E X s) (j : Nat) (x : ByteArray) (hx : bs[j]? = some x) (o : ByteArray) (ho : o.size ≤ 1000) :
    Calls Tryd.prog 45 #[rv S n c E, .int .i64 (j : Nat), .string o] w
      (Rdt w S n c bs E X (s.1, s.2 || badE (oneOf (nat x) (nat o)).2) (.tuple #[.int .i64 ((oneOf (nat x) (nat o)).1 : Nat), .bool ((oneOf (nat x) (nat o)).2 == 0)])) := by
  obtain ⟨W, hW, gW, ltW, d0, d1⟩ := boxR w S n c E
  obtain ⟨j0, j1, j2, hs⟩ := h.at_ hx
  have hc := (h.grew gW).fields j x hx
  have HI := fun w => Lib.hid (fld_One x o w hs ho)
  have HT := fun w' (g : Grew w w') => Lib.hid (r_there (h.grew g) _ (one_err (nat x) (nat o)))
  unfold Rdt at HT
  have G := Lib.hid gW
  clear h gW
  generalize oneOf (nat x) (nat o) = r at *
  unfold rv at HT ⊢
  go_enter Tryd.func45, Tryd.ntmps45
  go_upto_region 1 with fail
  go_wp2_with (first | (go_at_call 57; refine (HI _).out.mono ?_; rintro e w1 ⟨rfl, g1⟩; have e0 := (g1.cell (p := ⟨w.heap.size, 0, none⟩) ltW).trans d0; have e1 := (g1.cell (p := ⟨w.heap.size, 1, none⟩) ltW).trans d1; replace G := Lib.hid (G.out.trans g1); clear g1) | (go_at_call 51; refine (HT _ G.out).out.mono ?_; rintro e w2 ⟨rfl, hh, gg⟩))
  go_ret2
  exact ⟨rfl, hh, (Far.of_grew G.out).trans gg⟩
set_option maxHeartbeats 1000000 in
theorem r_fixed (h : Rd w S n c bs E X s) (j : Nat) (x : ByteArray) (hx : bs[j]? = some x) (p : Int) (hp : -9223372036854775808 ≤ p ∧ p ≤ 9223372036854775807) :
    Calls Tryd.prog 44 #[rv S n c E, .int .i64 (j : Nat), .int .i64 p] w
      (Rdt w S n c bs E X (s.1, s.2 || badE (fixedOf (nat x) p).2) (.int .i64 (fixedOf (nat x) p).1)) := by
  obtain ⟨W, hW, gW, ltW, d0, d1⟩ := boxR w S n c E
  obtain ⟨j0, j1, j2, hs⟩ := h.at_ hx
  have hc := (h.grew gW).fields j x hx
  have HI := fun w => Lib.hid (fld_Fixed x p w hs hp)
  have HT := fun w' (g : Grew w w') => Lib.hid (r_gather (h.grew g) _ (fixed_err (nat x) p))
  unfold Rdt at HT
  have G := Lib.hid gW
  clear h gW
  generalize fixedOf (nat x) p = r at *
  unfold rv
  go_enter Tryd.func44, Tryd.ntmps44
  go_upto_region 1 with fail
  go_wp2_with (first | (go_at_call 56; refine (HI _).out.mono ?_; rintro e w1 ⟨rfl, g1⟩; have e0 := (g1.cell (p := ⟨w.heap.size, 0, none⟩) ltW).trans d0; have e1 := (g1.cell (p := ⟨w.heap.size, 1, none⟩) ltW).trans d1; replace G := Lib.hid (G.out.trans g1); clear g1) | (go_at_call 9; refine (HT _ G.out).out.mono ?_; rintro e w2 ⟨rfl, hh, gg⟩))
  go_ret
  exact ⟨rfl, hh, (Far.of_grew G.out).trans gg⟩
set_option maxHeartbeats 1000000 in
theorem r_date (h : Rd w S n c bs E X s) (j : Nat) (x : ByteArray) (hx : bs[j]? = some x) :
    Calls Tryd.prog 42 #[rv S n c E, .int .i64 (j : Nat)] w
      (Rdt w S n c bs E X (s.1, s.2 || badE (dateOf (nat x)).2) (.tuple #[.int .i64 ((dateOf (nat x)).1.1 : Nat), .int .i64 ((dateOf (nat x)).1.2.1 : Nat), .int .i64 ((dateOf (nat x)).1.2.2 : Nat), .bool ((dateOf (nat x)).2 == 0)])) := by
  obtain ⟨W, hW, gW, ltW, d0, d1⟩ := boxR w S n c E
  obtain ⟨j0, j1, j2, hs⟩ := h.at_ hx
  have hc := (h.grew gW).fields j x hx
  have HI := fun w => Lib.hid (fld_Date x w hs)
  unfold dateVal at HI
  have HT := fun w' (g : Grew w w') => Lib.hid (r_there (h.grew g) _ (date_err (nat x)))
  unfold Rdt at HT
  have G := Lib.hid gW
  clear h gW
  generalize dateOf (nat x) = r at *
  obtain ⟨⟨r1, r2, r3⟩, r4⟩ := r
  unfold rv at HT ⊢
  go_enter Tryd.func42, Tryd.ntmps42
  go_upto_region 1 with fail
  go_wp2_with (first | (go_at_call 54; refine (HI _).out.mono ?_; rintro e w1 ⟨rfl, g1⟩; have e0 := (g1.cell (p := ⟨w.heap.size, 0, none⟩) ltW).trans d0; have e1 := (g1.cell (p := ⟨w.heap.size, 1, none⟩) ltW).trans d1; replace G := Lib.hid (G.out.trans g1); clear g1) | (go_at_call 51; refine (HT _ G.out).out.mono ?_; rintro e w2 ⟨rfl, hh, gg⟩))
  go_returns
  exact ⟨rfl, hh, (Far.of_grew G.out).trans gg⟩
set_option maxHeartbeats 1000000 in
theorem r_active (h : Rd w S n c bs E X s) (j : Nat) (x : ByteArray) (hx : bs[j]? = some x) :
    Calls Tryd.prog 39 #[rv S n c E, .int .i64 (j : Nat)] w
      (Rdt w S n c bs E X (s.1, s.2 || badE (oneOf (nat x) [65, 86]).2) (.bool ((oneOf (nat x) [65, 86]).2 == 0 && (oneOf (nat x) [65, 86]).1 == 0))) := by
  obtain ⟨W, hW, gW, ltW, d0, d1⟩ := boxR w S n c E
  have HT := Lib.hid (r_letter (h.grew gW) j x hx ⟨#[65, 86]⟩ (by decide))
  rw [show nat ⟨#[65, 86]⟩ = [65, 86] from rfl] at HT
  unfold Rdt at HT
  have G := Lib.hid gW
  clear h gW hx
  generalize oneOf (nat x) [65, 86] = r at *
  obtain ⟨p, q⟩ := r
  have e0 : ((p : Int) == 0) = (p == 0) := by
    rw [Bool.eq_iff_iff, beq_iff_eq, beq_iff_eq]; omega
  have E0 := Lib.hid e0
  clear e0
  unfold rv at HT ⊢
  go_enter Tryd.func39, Tryd.ntmps39
  go_upto_region 1 with fail
  cases hq : (q == 0)
  all_goals
    rw [hq] at HT
    have HQ := Lib.hid hq
    clear hq
    go_wp2_with (go_at_call 45; refine HT.out.mono ?_; rintro e w2 ⟨rfl, hh, gg⟩)
    go_ret
    exact ⟨by first | (rw [HQ.out, Bool.false_and]; rfl) | (rw [HQ.out, Bool.true_and, ← E0.out]; rfl), hh, (Far.of_grew G.out).trans gg⟩
set_option maxHeartbeats 1000000 in
theorem r_sign (h : Rd w S n c bs E X s) (j : Nat) (x : ByteArray) (hx : bs[j]? = some x) (o : ByteArray) (ho : o.size ≤ 1000) :
    Calls Tryd.prog 53 #[rv S n c E, .int .i64 (j : Nat), .string o] w
      (Rdt w S n c bs E X (s.1, s.2 || badE (oneOf (nat x) (nat o)).2) (.tuple #[.int .i64 (1 - 2 * ((oneOf (nat x) (nat o)).1 : Nat)), .bool ((oneOf (nat x) (nat o)).2 == 0)])) := by
  obtain ⟨W, hW, gW, ltW, d0, d1⟩ := boxR w S n c E
  have HT := Lib.hid (r_letter (h.grew gW) j x hx o ho)
  have hp := one_place (nat x) (nat o)
  rw [nat_length] at hp
  unfold Rdt at HT
  have G := Lib.hid gW
  clear h gW hx
  generalize oneOf (nat x) (nat o) = r at *
  obtain ⟨p, q⟩ := r
  have m1 : IntKind.i64.wrap (2 * (p : Int)) = 2 * (p : Int) := IntWalk.i64_in _ (by simp only at hp; omega)
  have m2 : IntKind.i64.wrap (1 - 2 * (p : Int)) = 1 - 2 * (p : Int) := IntWalk.i64_in _ (by simp only at hp; omega)
  unfold rv at HT ⊢
  go_enter Tryd.func53, Tryd.ntmps53
  go_upto_region 1 with fail
  go_wp2_with (go_at_call 45; refine HT.out.mono ?_; rintro e w2 ⟨rfl, hh, gg⟩)
  go_ret2
  exact ⟨rfl, hh, (Far.of_grew G.out).trans gg⟩
end
end Go.Proofs.YtajgicliepenkaaDoor

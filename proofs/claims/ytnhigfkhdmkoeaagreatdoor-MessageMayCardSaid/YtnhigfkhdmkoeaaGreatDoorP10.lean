/-
  The program's sentences: minutes, angles.
  The program's sentences: angles, places.
  The program's sentences: a reader's places.
  The program's sentences: what a reader's calls tell, by the fields' numbers.
  The program's sentences: the fields that may not be empty.
  The program's sentences: the kinds, as the map holds them.
  The program's sentences: a kind by a first field.
  The program's sentences: a kind by a first field, the walk.
-/
import Derived.Test.YtnhigfkhdmkoeaaGreatDoorP09
import Derived.Deep.RegionHeld3
import Derived.LoopTactic
import Derived.MapKept
import Derived.Laws.EntriesVeiled

namespace Go.Proofs.YtnhigfkhdmkoeaaGreatDoor
open Go.RowKit
set_option linter.unusedVariables false

/- The program's sentences: minutes, angles. -/
theorem min_err (S : List Nat) : (minOf S).2 < 1000 := by
  have h1 := int_err (S.take 2) 0 59
  have h2 := fixed_err S 5
  unfold minOf
  split
  · decide
  · split
    · exact h1
    · exact h2
theorem ang_err (S : List Nat) (d : Nat) (m : Int) : (angOf S d m).2 < 1000 := by
  unfold angOf
  repeat' split
  all_goals simp
theorem int_in (S : List Nat) (l m : Int) (h : l ≤ 0 ∧ 0 ≤ m) : l ≤ (intAns S l m).1 ∧ (intAns S l m).1 ≤ m := by
  unfold intAns
  split
  · exact h
  · split
    · exact h
    · split
      · exact h
      · rename_i h3
        simp only
        omega
theorem fixN_le (S : List Nat) (a : Nat) : ∀ (k base m : Nat), base ≤ m → (∀ i, wd S i < 256) → fixN S a base k ≤ (m + 256) * 11 ^ k := by
  intro k
  induction k with
  | zero => intro base m h _; rw [fixN]; omega
  | succ k ih =>
    intro base m h hB
    have h1 := ih base m h hB
    have h2 := hB (a + (k + 1))
    have h3 : 1 ≤ 11 ^ k := Nat.pow_pos (by omega)
    have h4 : 256 * 1 ≤ (m + 256) * 11 ^ k := Nat.mul_le_mul (by omega) h3
    rw [fixN, Nat.pow_succ, ← Nat.mul_assoc]
    generalize (m + 256) * 11 ^ k = q at *
    split <;> omega
theorem num_le (S : List Nat) (a : Nat) (hB : ∀ i, wd S i < 256) : ∀ k, numOf S a k ≤ 256 * 11 ^ k := by
  intro k
  induction k with
  | zero => rw [numOf]; omega
  | succ k ih =>
    have h2 := hB (a + k)
    have h3 : 1 ≤ 11 ^ k := Nat.pow_pos (by omega)
    rw [numOf, Nat.pow_succ, ← Nat.mul_assoc]
    omega
/-- Minutes are of less than a hundred. -/
theorem fixed_in (S : List Nat) (hB : ∀ i, wd S i < 256) (hp : pointOf S ≤ 2) : -1000000000000 ≤ (fixedOf S 5).1 ∧ (fixedOf S 5).1 ≤ 1000000000000 := by
  unfold fixedOf
  split
  · simp
  · split
    · simp
    · split
      · simp
      · split
        · simp
        · have h1 := num_le S (fromOf S) hB (pointOf S - fromOf S)
          have h2 : (11 : Nat) ^ (pointOf S - fromOf S) ≤ 11 ^ 2 := Nat.pow_le_pow_right (by omega) (by omega)
          have h3 := fixN_le S (pointOf S) 5 (numOf S (fromOf S) (pointOf S - fromOf S)) (256 * 121) (by omega) hB
          simp only [show (5 : Int).toNat = 5 from rfl]
          split <;> omega
theorem min_in (S : List Nat) (hB : ∀ i, wd S i < 256) : -1000000000000 ≤ (minOf S).1 ∧ (minOf S).1 ≤ 1000000000000 := by
  unfold minOf
  split
  · simp
  · split
    · simp
    · exact fixed_in S hB (by omega)
theorem take_nat (s : ByteArray) (k : Nat) : nat (s.extract 0 k) = (nat s).take k := by rw [nat_extract, List.drop_zero]
theorem drop_nat (s : ByteArray) (k : Nat) : nat (s.extract k s.size) = (nat s).drop k := by rw [nat_extract, ← nat_length, List.take_length]

set_option maxHeartbeats 1000000 in
theorem r_minutes (x : ByteArray) (w : World) (hs : x.size ≤ 2000) :
    Calls Tryz.prog 157 #[.string x] w fun e w' => e = .returned (.tuple #[.int .i64 (minOf (nat x)).1, .int .i64 ((minOf (nat x)).2 : Nat)]) ∧ Grew w w' := by
  have HC := fun w => fld_cut x 46 (pointOf (nat x)) w hs (point_place _).symm
  unfold parted at HC
  have hl := nat_length x
  have hpl := pointOf_le (nat x)
  have G := Lib.hid (Grew.refl w)
  have HU : minOf (nat x) = if pointOf (nat x) ≠ 2 then (0, 5) else if (intAns ((nat x).take 2) 0 59).2 ≠ 0 then (0, (intAns ((nat x).take 2) 0 59).2) else fixedOf (nat x) 5 := rfl
  have sz : (x.extract 0 (pointOf (nat x))).size = pointOf (nat x) := by rw [size_extract]; omega
  by_cases hp : pointOf (nat x) = 2
  · rw [if_neg (fun h => h hp)] at HU
    rw [hp] at HC sz
    have HI := fun w => fld_Int (x.extract 0 2) 0 59 w (by omega) (by decide) (by decide)
    rw [take_nat] at HI
    have HF := fun w => Lib.hid (fld_Fixed x 5 w hs (by decide))
    have z1 : ((x.extract 0 2).size : Int) = 2 := by omega
    have z2 : (((x.extract 0 2).size : Int) != 2) = false := by rw [z1]; rfl
    generalize x.extract 0 2 = a at *
    generalize x.extract (2 + 1) x.size = b at *
    generalize decide (2 < x.size) = d at *
    generalize intAns ((nat x).take 2) 0 59 = r at *
    obtain ⟨r1, r2⟩ := r
    by_cases hr : r2 = 0
    · subst hr
      rw [if_neg (by simp)] at HU
      have HV := Lib.hid HU
      replace HC := fun w => Lib.hid (HC w)
      replace HI := fun w => Lib.hid (HI w)
      clear HU hp hpl hl
      go_enter Tryz.func157, Tryz.ntmps157
      go_wp2_with (first | (go_at_call 154; refine (HC _).out.mono ?_; rintro e w1 ⟨rfl, g1⟩; replace G := Lib.hid (G.out.trans g1); clear g1) | (go_at_call 131; refine (HI _).out.mono ?_; rintro e w1 ⟨rfl, g1⟩; replace G := Lib.hid (G.out.trans g1); clear g1) | (go_at_call 132; refine (HF _).out.mono ?_; rintro e w1 ⟨rfl, g1⟩; replace G := Lib.hid (G.out.trans g1); clear g1))
      go_ret2
      exact ⟨by rw [HV.out]; rfl, G.out⟩
    · rw [if_pos hr] at HU
      have HV := Lib.hid HU
      have y0 : ((r2 : Int) != 0) = true := by simp; omega
      have y1 : ¬ (r2 : Int) = 0 := by omega
      replace HC := fun w => Lib.hid (HC w)
      replace HI := fun w => Lib.hid (HI w)
      clear HU hp hpl hl hr
      go_enter Tryz.func157, Tryz.ntmps157
      go_wp2_with (first | (go_at_call 154; refine (HC _).out.mono ?_; rintro e w1 ⟨rfl, g1⟩; replace G := Lib.hid (G.out.trans g1); clear g1) | (go_at_call 131; refine (HI _).out.mono ?_; rintro e w1 ⟨rfl, g1⟩; replace G := Lib.hid (G.out.trans g1); clear g1))
      go_ret2
      exact ⟨by rw [HV.out]; rfl, G.out⟩
  · rw [if_pos hp] at HU
    have HV := Lib.hid HU
    generalize pointOf (nat x) = p at *
    have z0 : (((x.extract 0 p).size : Int) != 2) = true := by simp; omega
    have z1 : ¬ ((x.extract 0 p).size : Int) = 2 := by omega
    generalize x.extract 0 p = a at *
    generalize x.extract (p + 1) x.size = b at *
    generalize decide (p < x.size) = d at *
    replace HC := fun w => Lib.hid (HC w)
    clear HU hp hpl hl sz
    go_enter Tryz.func157, Tryz.ntmps157
    go_wp2_with (first | (go_at_call 154; refine (HC _).out.mono ?_; rintro e w1 ⟨rfl, g1⟩; replace G := Lib.hid (G.out.trans g1); clear g1))
    go_ret2
    exact ⟨by rw [HV.out]; rfl, G.out⟩
/- The program's sentences: angles, places. -/
set_option maxHeartbeats 2000000 in
theorem n_angle (x : ByteArray) (d most : Nat) (w : World) (hs : x.size ≤ 2000) (hd : d ≤ 10) (hm : most ≤ 1000) :
    Calls Tryz.prog 146 #[.string x, .int .i64 (d : Nat), .int .i64 (most : Nat)] w fun e w' => e = .returned (.tuple #[.int .i64 (angOf (nat x) d most).1, .int .i64 ((angOf (nat x) d most).2 : Nat)]) ∧ Grew w w' := by
  have hl := nat_length x
  have G := Lib.hid (Grew.refl w)
  by_cases h0 : x.size = 0
  · have hV : Hid (angOf (nat x) d most = (0, 7)) := by show _ = _; unfold angOf; rw [if_pos (by omega)]
    have h0' := empty_of x h0
    subst h0'
    clear hl
    go_enter Tryz.func146, Tryz.ntmps146
    go_wp2_with fail
    go_ret2
    exact ⟨by rw [hV.out]; rfl, G.out⟩
  · have h0' : x.toList.isEmpty = false := by rw [is_empty]; simpa using h0
    obtain ⟨k, hk⟩ : ∃ k, min d x.size = k := ⟨_, rfl⟩
    have hU : angOf (nat x) d most = if (intAns ((nat x).take k) 0 most).2 ≠ 0 then (0, 5)
      else if (minOf ((nat x).drop k)).2 ≠ 0 ∨ (most : Int) * 6000000 < (intAns ((nat x).take k) 0 most).1 * 6000000 + (minOf ((nat x).drop k)).1 then (0, 5)
      else ((intAns ((nat x).take k) 0 most).1 * 6000000 + (minOf ((nat x).drop k)).1, 0) := by
      unfold angOf
      rw [if_neg (by omega), hl, hk]
    have hb1 := int_in ((nat x).take k) 0 most (by omega)
    have hb2 := min_in ((nat x).drop k) (fun i => by rw [← drop_nat]; exact nat_lt _ i)
    have HI := fun w => fld_Int (x.extract 0 k) 0 most w (by rw [size_extract]; omega) (by decide) (by omega)
    rw [take_nat] at HI
    have HM := fun w => r_minutes (x.extract k x.size) w (by rw [size_extract]; omega)
    rw [drop_nat] at HM
    have kx : (k : Int) ≤ x.size := by omega
    have k0 : (0 : Int) ≤ k := by omega
    generalize intAns ((nat x).take k) 0 most = r at *
    generalize minOf ((nat x).drop k) = q at *
    obtain ⟨r1, r2⟩ := r
    obtain ⟨q1, q2⟩ := q
    simp only at hb1 hb2 hU HI HM
    replace HI := fun w => Lib.hid (HI w)
    replace HM := fun w => Lib.hid (HM w)
    have hmin : min (d : Int) (x.size : Int) = (k : Int) := by omega
    clear hl hk h0
    by_cases hr : r2 = 0
    · subst hr
      rw [if_neg (by simp)] at hU
      by_cases hq : q2 = 0
      · subst hq
        have m1 : IntKind.i64.wrap (r1 * 6000000) = r1 * 6000000 := IntWalk.i64_in _ (by omega)
        have m2 : IntKind.i64.wrap (r1 * 6000000 + q1) = r1 * 6000000 + q1 := IntWalk.i64_in _ (by omega)
        have m3 : IntKind.i64.wrap ((most : Int) * 6000000) = (most : Int) * 6000000 := IntWalk.i64_in _ (by omega)
        by_cases ho : (most : Int) * 6000000 < r1 * 6000000 + q1
        · rw [if_pos (.inr ho)] at hU
          have HV := Lib.hid hU
          clear hU hb1 hb2
          go_enter Tryz.func146, Tryz.ntmps146
          go_wp2_with (first | (go_at_call 131; refine (HI _).out.mono ?_; rintro e w1 ⟨rfl, g1⟩; replace G := Lib.hid (G.out.trans g1); clear g1) | (go_at_call 157; refine (HM _).out.mono ?_; rintro e w1 ⟨rfl, g1⟩; replace G := Lib.hid (G.out.trans g1); clear g1))
          go_ret2
          exact ⟨by rw [HV.out]; rfl, G.out⟩
        · rw [if_neg (by rintro (h | h); exact h rfl; exact ho h)] at hU
          have HV := Lib.hid hU
          clear hU hb1 hb2
          go_enter Tryz.func146, Tryz.ntmps146
          go_wp2_with (first | (go_at_call 131; refine (HI _).out.mono ?_; rintro e w1 ⟨rfl, g1⟩; replace G := Lib.hid (G.out.trans g1); clear g1) | (go_at_call 157; refine (HM _).out.mono ?_; rintro e w1 ⟨rfl, g1⟩; replace G := Lib.hid (G.out.trans g1); clear g1))
          go_ret2
          exact ⟨by rw [HV.out]; rfl, G.out⟩
      · rw [if_pos (.inl hq)] at hU
        have HV := Lib.hid hU
        have y0 : ((q2 : Int) != 0) = true := by simp; omega
        have y1 : ¬ (q2 : Int) = 0 := by omega
        clear hU hb1 hb2 hq
        go_enter Tryz.func146, Tryz.ntmps146
        go_wp2_with (first | (go_at_call 131; refine (HI _).out.mono ?_; rintro e w1 ⟨rfl, g1⟩; replace G := Lib.hid (G.out.trans g1); clear g1) | (go_at_call 157; refine (HM _).out.mono ?_; rintro e w1 ⟨rfl, g1⟩; replace G := Lib.hid (G.out.trans g1); clear g1))
        go_ret2
        exact ⟨by rw [HV.out]; rfl, G.out⟩
    · rw [if_pos hr] at hU
      have HV := Lib.hid hU
      have y0 : ((r2 : Int) != 0) = true := by simp; omega
      have y1 : ¬ (r2 : Int) = 0 := by omega
      clear hU hb1 hb2 hr
      go_enter Tryz.func146, Tryz.ntmps146
      go_wp2_with (first | (go_at_call 131; refine (HI _).out.mono ?_; rintro e w1 ⟨rfl, g1⟩; replace G := Lib.hid (G.out.trans g1); clear g1))
      go_ret2
      exact ⟨by rw [HV.out]; rfl, G.out⟩
section
variable {w w' : World} {S n c E X : Nat} {bs : List ByteArray} {s : Rs}
set_option maxHeartbeats 1000000 in
theorem r_angle (h : Rd w S n c bs E X s) (j : Nat) (x : ByteArray) (hx : bs[j]? = some x) (d most : Nat) (hd : d ≤ 10) (hm : most ≤ 1000) :
    Calls Tryz.prog 127 #[rv S n c E, .int .i64 (j : Nat), .int .i64 (d : Nat), .int .i64 (most : Nat)] w
      (Rdt w S n c bs E X (s.1, s.2 || badE (angOf (nat x) d most).2) (.tuple #[.int .i64 (angOf (nat x) d most).1, .bool ((angOf (nat x) d most).2 == 0)])) := by
  obtain ⟨W, hW, gW, ltW, d0, d1⟩ := boxR w S n c E
  obtain ⟨j0, j1, j2, hs⟩ := h.at_ hx
  have hc := (h.grew gW).fields j x hx
  have HI := fun w => Lib.hid (n_angle x d most w hs hd hm)
  have HT := fun w' (g : Grew w w') => Lib.hid (r_there (h.grew g) _ (ang_err (nat x) d most))
  unfold Rdt at HT
  have G := Lib.hid gW
  clear h gW
  generalize angOf (nat x) d most = r at *
  unfold rv at HT ⊢
  go_enter Tryz.func127, Tryz.ntmps127
  go_upto_region 1 with fail
  go_wp2_with (first | (go_at_call 146; refine (HI _).out.mono ?_; rintro e w1 ⟨rfl, g1⟩; have e0 := (g1.cell (p := ⟨w.heap.size, 0, none⟩) ltW).trans d0; have e1 := (g1.cell (p := ⟨w.heap.size, 1, none⟩) ltW).trans d1; replace G := Lib.hid (G.out.trans g1); clear g1) | (go_at_call 126; refine (HT _ G.out).out.mono ?_; rintro e w2 ⟨rfl, hh, gg⟩))
  go_ret2
  exact ⟨rfl, hh, (Far.of_grew G.out).trans gg⟩
end
/- The program's sentences: a reader's places. -/
/-- The fields by their numbers. -/
def fb (bs : List ByteArray) (j : Nat) : List Nat := (bs.map nat).getD j []
theorem fb_at {bs : List ByteArray} {j : Nat} {x : ByteArray} (h : bs[j]? = some x) : fb bs j = nat x := by
  unfold fb
  rw [List.getD_eq_getElem?_getD, List.getElem?_map, h]
  rfl
abbrev FarX (E X : Nat) := Far (fun k => k = E ∨ k = X)
/-- What a call that writes a fix has done. -/
def Rdx (w : World) (S n c : Nat) (bs : List ByteArray) (E X : Nat) (s : Rs) (e : Ending) (w' : World) : Prop := e = .returned (.tuple #[]) ∧ Rd w' S n c bs E X s ∧ FarX E X w w'
theorem farE_x {E X : Nat} {w w' : World} (h : FarE E w w') : FarX E X w w' := h.mono (fun k _ hk => .inl hk)
theorem farX_put {E X : Nat} {w w' : World} (h : FarX E X w w') (k : Nat) (v : Value) : FarX E X w (w'.setCell ⟨X, k, none⟩ v) := Far.setCell h (p := ⟨X, k, none⟩) (.inr rfl) v
section
variable {w w' : World} {S n c E X : Nat} {bs : List ByteArray} {s : Rs}
theorem Rd.p_valid (h : Rd w S n c bs E X s) (v : Bool) : Rd (w.setCell ⟨X, 1, none⟩ (.bool v)) S n c bs E X ({ s.1 with valid := v }, s.2) := h.put 1 (.bool v) { s.1 with valid := v } rfl
theorem Rd.p_hasTime (h : Rd w S n c bs E X s) (v : Bool) : Rd (w.setCell ⟨X, 2, none⟩ (.bool v)) S n c bs E X ({ s.1 with hasTime := v }, s.2) := h.put 2 (.bool v) { s.1 with hasTime := v } rfl
theorem Rd.p_hasDate (h : Rd w S n c bs E X s) (v : Bool) : Rd (w.setCell ⟨X, 3, none⟩ (.bool v)) S n c bs E X ({ s.1 with hasDate := v }, s.2) := h.put 3 (.bool v) { s.1 with hasDate := v } rfl
theorem Rd.p_hasPos (h : Rd w S n c bs E X s) (v : Bool) : Rd (w.setCell ⟨X, 4, none⟩ (.bool v)) S n c bs E X ({ s.1 with hasPos := v }, s.2) := h.put 4 (.bool v) { s.1 with hasPos := v } rfl
theorem Rd.p_day (h : Rd w S n c bs E X s) (v : Int) : Rd (w.setCell ⟨X, 9, none⟩ (.int .i64 v)) S n c bs E X ({ s.1 with day := v }, s.2) := h.put 9 (.int .i64 v) { s.1 with day := v } rfl
theorem Rd.p_month (h : Rd w S n c bs E X s) (v : Int) : Rd (w.setCell ⟨X, 10, none⟩ (.int .i64 v)) S n c bs E X ({ s.1 with month := v }, s.2) := h.put 10 (.int .i64 v) { s.1 with month := v } rfl
theorem Rd.p_year (h : Rd w S n c bs E X s) (v : Int) : Rd (w.setCell ⟨X, 11, none⟩ (.int .i64 v)) S n c bs E X ({ s.1 with year := v }, s.2) := h.put 11 (.int .i64 v) { s.1 with year := v } rfl
theorem Rd.p_lat (h : Rd w S n c bs E X s) (v : Int) : Rd (w.setCell ⟨X, 12, none⟩ (.int .i64 v)) S n c bs E X ({ s.1 with lat := v }, s.2) := h.put 12 (.int .i64 v) { s.1 with lat := v } rfl
theorem Rd.p_lon (h : Rd w S n c bs E X s) (v : Int) : Rd (w.setCell ⟨X, 13, none⟩ (.int .i64 v)) S n c bs E X ({ s.1 with lon := v }, s.2) := h.put 13 (.int .i64 v) { s.1 with lon := v } rfl
theorem Rd.p_speed (h : Rd w S n c bs E X s) (v : Int) : Rd (w.setCell ⟨X, 14, none⟩ (.int .i64 v)) S n c bs E X ({ s.1 with speed := v }, s.2) := h.put 14 (.int .i64 v) { s.1 with speed := v } rfl
theorem Rd.p_course (h : Rd w S n c bs E X s) (v : Int) : Rd (w.setCell ⟨X, 15, none⟩ (.int .i64 v)) S n c bs E X ({ s.1 with course := v }, s.2) := h.put 15 (.int .i64 v) { s.1 with course := v } rfl
theorem Rd.p_quality (h : Rd w S n c bs E X s) (v : Int) : Rd (w.setCell ⟨X, 16, none⟩ (.int .i64 v)) S n c bs E X ({ s.1 with quality := v }, s.2) := h.put 16 (.int .i64 v) { s.1 with quality := v } rfl
theorem Rd.p_sats (h : Rd w S n c bs E X s) (v : Int) : Rd (w.setCell ⟨X, 17, none⟩ (.int .i64 v)) S n c bs E X ({ s.1 with sats := v }, s.2) := h.put 17 (.int .i64 v) { s.1 with sats := v } rfl
theorem Rd.p_mode (h : Rd w S n c bs E X s) (v : Int) : Rd (w.setCell ⟨X, 18, none⟩ (.int .i64 v)) S n c bs E X ({ s.1 with mode := v }, s.2) := h.put 18 (.int .i64 v) { s.1 with mode := v } rfl
theorem Rd.p_height (h : Rd w S n c bs E X s) (v : Int) : Rd (w.setCell ⟨X, 19, none⟩ (.int .i64 v)) S n c bs E X ({ s.1 with height := v }, s.2) := h.put 19 (.int .i64 v) { s.1 with height := v } rfl
theorem Rd.p_pdop (h : Rd w S n c bs E X s) (v : Int) : Rd (w.setCell ⟨X, 20, none⟩ (.int .i64 v)) S n c bs E X ({ s.1 with pdop := v }, s.2) := h.put 20 (.int .i64 v) { s.1 with pdop := v } rfl
theorem Rd.p_hdop (h : Rd w S n c bs E X s) (v : Int) : Rd (w.setCell ⟨X, 21, none⟩ (.int .i64 v)) S n c bs E X ({ s.1 with hdop := v }, s.2) := h.put 21 (.int .i64 v) { s.1 with hdop := v } rfl
theorem Rd.p_vdop (h : Rd w S n c bs E X s) (v : Int) : Rd (w.setCell ⟨X, 22, none⟩ (.int .i64 v)) S n c bs E X ({ s.1 with vdop := v }, s.2) := h.put 22 (.int .i64 v) { s.1 with vdop := v } rfl
theorem Rd.p_parts (h : Rd w S n c bs E X s) (v : Int) : Rd (w.setCell ⟨X, 23, none⟩ (.int .i64 v)) S n c bs E X ({ s.1 with parts := v }, s.2) := h.put 23 (.int .i64 v) { s.1 with parts := v } rfl
theorem Rd.p_part (h : Rd w S n c bs E X s) (v : Int) : Rd (w.setCell ⟨X, 24, none⟩ (.int .i64 v)) S n c bs E X ({ s.1 with part := v }, s.2) := h.put 24 (.int .i64 v) { s.1 with part := v } rfl
theorem Rd.p_time (h : Rd w S n c bs E X s) (a b d : Nat) (f : Bool) : Rd ((((w.setCell ⟨X, 5, none⟩ (.int .i64 (a : Nat))).setCell ⟨X, 6, none⟩ (.int .i64 (b : Nat))).setCell ⟨X, 7, none⟩ (.int .i64 (d : Nat))).setCell ⟨X, 8, none⟩ (.bool f)) S n c bs E X ({ s.1 with time := (a, b, d, f) }, s.2) :=
  (((h.put 5 (.int .i64 (a : Nat)) { s.1 with time := (a, s.1.time.2) } rfl).put 6 (.int .i64 (b : Nat)) { s.1 with time := (a, b, s.1.time.2.2) } rfl).put 7 (.int .i64 (d : Nat)) { s.1 with time := (a, b, d, s.1.time.2.2.2) } rfl).put 8 (.bool f) { s.1 with time := (a, b, d, f) } rfl
/-- The box of a reader stays. -/
theorem box_kept {B S n c E : Nat} {W : World} (hB : B < W.heap.size) (hE : B ≠ E) (d0 : W.cell? ⟨B, 0, none⟩ = some (.slice (some ⟨S, 0, none⟩) n c)) (d1 : W.cell? ⟨B, 1, none⟩ = some (.func (.func 50) #[] #[.pointer (some ⟨E, 0, none⟩)])) :
    ∀ w', FarE E W w' → w'.cell? ⟨B, 0, none⟩ = some (.slice (some ⟨S, 0, none⟩) n c) ∧ w'.cell? ⟨B, 1, none⟩ = some (.func (.func 50) #[] #[.pointer (some ⟨E, 0, none⟩)]) :=
  fun w' g => ⟨(g.cell (p := ⟨B, 0, none⟩) hB hE).trans d0, (g.cell (p := ⟨B, 1, none⟩) hB hE).trans d1⟩

theorem sPos_has {f : Nat → List Nat} {j : Nat} {a0 a1 a2 a3 : List Nat} (h0 : f j = a0) (h1 : f (j + 1) = a1) (h2 : f (j + 2) = a2) (h3 : f (j + 3) = a3) :
    sPos f j s = ({ s.1 with hasPos := (angOf a0 2 90).2 == 0 && (oneOf a1 [78, 83]).2 == 0 && (angOf a2 3 180).2 == 0 && (oneOf a3 [69, 87]).2 == 0, lat := if (angOf a0 2 90).2 == 0 && (oneOf a1 [78, 83]).2 == 0 && (angOf a2 3 180).2 == 0 && (oneOf a3 [69, 87]).2 == 0 then (angOf a0 2 90).1 * (1 - 2 * ((oneOf a1 [78, 83]).1 : Nat)) else s.1.lat, lon := if (angOf a0 2 90).2 == 0 && (oneOf a1 [78, 83]).2 == 0 && (angOf a2 3 180).2 == 0 && (oneOf a3 [69, 87]).2 == 0 then (angOf a2 3 180).1 * (1 - 2 * ((oneOf a3 [69, 87]).1 : Nat)) else s.1.lon },
     s.2 || badE (angOf a0 2 90).2 || badE (oneOf a1 [78, 83]).2 || badE (angOf a2 3 180).2 || badE (oneOf a3 [69, 87]).2) := by
  subst h0 h1 h2 h3
  rfl
theorem ang_in (S : List Nat) (hB : ∀ i, wd S i < 256) (d most : Nat) (hm : most ≤ 1000) : -2000000000000 ≤ (angOf S d most).1 ∧ (angOf S d most).1 ≤ 2000000000000 := by
  have h1 := int_in (S.take (min d S.length)) 0 most (by omega)
  have h2 := min_in (S.drop (min d S.length)) (fun i => by
    have := hB (min d S.length + i)
    unfold wd at this ⊢
    rw [List.getD_eq_getElem?_getD, List.getElem?_drop, ← List.getD_eq_getElem?_getD]; exact this)
  unfold angOf
  repeat' split
  all_goals simp only
  all_goals omega
theorem one_in (S O : List Nat) (h : (oneOf S O).2 = 0) : (oneOf S O).1 < O.length := by
  unfold oneOf at h ⊢
  split
  · rename_i h1; rw [if_pos h1] at h; exact absurd h h1
  · rename_i h1
    rw [if_neg h1] at h
    split
    · rename_i h2; exact h2.2
    · rename_i h2; rw [if_neg h2] at h; cases h

set_option maxHeartbeats 4000000 in
set_option maxRecDepth 100000 in
theorem r_position (h : Rd w S n c bs E X s) (j : Nat) (x0 x1 x2 x3 : ByteArray) (h0 : bs[j]? = some x0) (h1 : bs[j + 1]? = some x1) (h2 : bs[j + 2]? = some x2) (h3 : bs[j + 3]? = some x3) :
    Calls Tryz.prog 113 #[rv S n c E, .int .i64 (j : Nat), .pointer (some ⟨X, 0, none⟩)] w (Rdx w S n c bs E X (sPos (fb bs) j s)) := by
  have HS := Lib.hid (sPos_has (s := s) (fb_at h0) (fb_at h1) (fb_at h2) (fb_at h3))
  obtain ⟨W, hW, gW, ltW, d0, d1⟩ := boxR w S n c E
  have hj := (h.at_ h3).1
  have hmany := h.many
  have m1 : IntKind.i64.wrap ((j : Int) + 1) = ((j + 1 : Nat) : Int) := by rw [IntWalk.i64_in _ (by omega)]; simp
  have m2 : IntKind.i64.wrap ((j : Int) + 2) = ((j + 2 : Nat) : Int) := by rw [IntWalk.i64_in _ (by omega)]; simp
  have m3 : IntKind.i64.wrap ((j : Int) + 3) = ((j + 3 : Nat) : Int) := by rw [IntWalk.i64_in _ (by omega)]; simp
  have HA0 := fun w' s' (h' : Rd w' S n c bs E X s') => Lib.hid (r_angle h' j x0 h0 2 90 (by omega) (by omega))
  have HA1 := fun w' s' (h' : Rd w' S n c bs E X s') => Lib.hid (r_sign h' (j + 1) x1 h1 ⟨#[78, 83]⟩ (by decide))
  have HA2 := fun w' s' (h' : Rd w' S n c bs E X s') => Lib.hid (r_angle h' (j + 2) x2 h2 3 180 (by omega) (by omega))
  have HA3 := fun w' s' (h' : Rd w' S n c bs E X s') => Lib.hid (r_sign h' (j + 3) x3 h3 ⟨#[69, 87]⟩ (by decide))
  rw [show nat ⟨#[78, 83]⟩ = [78, 83] from rfl] at HA1
  rw [show nat ⟨#[69, 87]⟩ = [69, 87] from rfl] at HA3
  rw [show ((2 : Nat) : Int) = 2 from rfl, show ((90 : Nat) : Int) = 90 from rfl] at HA0
  rw [show ((3 : Nat) : Int) = 3 from rfl, show ((180 : Nat) : Int) = 180 from rfl] at HA2
  have i0 := ang_in (nat x0) (nat_lt x0) 2 90 (by omega)
  have i2 := ang_in (nat x2) (nat_lt x2) 3 180 (by omega)
  have i1 := one_in (nat x1) [78, 83]
  have i3 := one_in (nat x3) [69, 87]
  simp only [show ([78, 83] : List Nat).length = 2 from rfl, show ([69, 87] : List Nat).length = 2 from rfl] at i1 i3
  have hEl := h.hE
  have KB := box_kept ltW (show w.heap.size ≠ E by omega) d0 d1
  have HH := Lib.hid (h.grew gW)
  have GW := Lib.hid gW
  have G : Hid (FarE E W W) := Lib.hid (Far.refl _ _)
  have hXl := h.hX
  clear h gW h0 h1 h2 h3
  rw [show ((90 : Nat) : Int) = 90 from rfl] at i0
  rw [show ((180 : Nat) : Int) = 180 from rfl] at i2
  unfold Rdt at HA0 HA1 HA2 HA3
  generalize angOf (nat x0) 2 90 = r0 at *
  generalize angOf (nat x2) 3 180 = r2 at *
  generalize oneOf (nat x1) [78, 83] = r1 at *
  generalize oneOf (nat x3) [69, 87] = r3 at *
  obtain ⟨p0, q0⟩ := r0
  obtain ⟨p1, q1⟩ := r1
  obtain ⟨p2, q2⟩ := r2
  obtain ⟨p3, q3⟩ := r3
  simp only at HS HA0 HA1 HA2 HA3 i0 i1 i2 i3
  have c1 : (q1 == 0) = true → p1 < 2 := fun e => i1 (beq_iff_eq.1 e)
  have c3 : (q3 == 0) = true → p3 < 2 := fun e => i3 (beq_iff_eq.1 e)
  clear i1 i3
  generalize (q0 == 0) = b0 at *
  generalize (q1 == 0) = b1 at *
  generalize (q2 == 0) = b2 at *
  generalize (q3 == 0) = b3 at *
  generalize badE q0 = z0 at *
  generalize badE q1 = z1 at *
  generalize badE q2 = z2 at *
  generalize badE q3 = z3 at *
  have hc : (b0 && b1 && b2 && b3) = false ∧ (b0 = false ∨ (b0 = true ∧ b1 = false) ∨ (b0 = true ∧ b1 = true ∧ b2 = false) ∨ (b0 = true ∧ b1 = true ∧ b2 = true ∧ b3 = false)) ∨ (b0 = true ∧ b1 = true ∧ b2 = true ∧ b3 = true) := by
    cases b0 <;> cases b1 <;> cases b2 <;> cases b3 <;> decide
  rcases hc with ⟨ha, hc⟩ | ⟨rfl, rfl, rfl, rfl⟩
  · rw [ha] at HS
    clear i0 i2 c1 c3 ha
    rcases hc with rfl | ⟨rfl, rfl⟩ | ⟨rfl, rfl, rfl⟩ | ⟨rfl, rfl, rfl, rfl⟩
    all_goals
      unfold rv at HA0 HA1 HA2 HA3 ⊢
      go_enter Tryz.func113, Tryz.ntmps113
      go_upto_region 1 with fail
      go_upto_region 2 with (go_at_call 127; refine (HA0 _ _ HH.out).out.mono ?_; rintro e w1 ⟨rfl, hh, gg⟩; replace HH := Lib.hid hh; replace G := Lib.hid (G.out.trans gg); clear d0 d1 hh gg HA0; obtain ⟨d0, d1⟩ := KB _ G.out)
      go_upto_region 3 with (go_at_call 128; refine (HA1 _ _ HH.out).out.mono ?_; rintro e w2 ⟨rfl, hh, gg⟩; replace HH := Lib.hid hh; replace G := Lib.hid (G.out.trans gg); clear d0 d1 hh gg HA1; obtain ⟨d0, d1⟩ := KB _ G.out)
      go_upto_region 4 with (go_at_call 127; refine (HA2 _ _ HH.out).out.mono ?_; rintro e w3 ⟨rfl, hh, gg⟩; replace HH := Lib.hid hh; replace G := Lib.hid (G.out.trans gg); clear d0 d1 hh gg HA2; obtain ⟨d0, d1⟩ := KB _ G.out)
      go_upto_region 5 with (go_at_call 128; refine (HA3 _ _ HH.out).out.mono ?_; rintro e w4 ⟨rfl, hh, gg⟩; replace HH := Lib.hid hh; replace G := Lib.hid (G.out.trans gg); clear d0 d1 hh gg HA3; obtain ⟨d0, d1⟩ := KB _ G.out)
      have k4 := HH.out.cellX 4 _ rfl
      have f4 := HH.out.frozenX 4
      go_wp2_with fail
      go_returns
      exact ⟨rfl, by rw [HS.out]; exact HH.out.p_hasPos false, farX_put ((Far.of_grew GW.out).trans (farE_x G.out)) 4 _⟩
  · have n0 : IntKind.i64.wrap (p0 * (1 - 2 * (p1 : Int))) = p0 * (1 - 2 * (p1 : Int)) := by
      have := c1 rfl
      rcases (show p1 = 0 ∨ p1 = 1 by omega) with rfl | rfl <;> exact IntWalk.i64_in _ (by omega)
    have n2 : IntKind.i64.wrap (p2 * (1 - 2 * (p3 : Int))) = p2 * (1 - 2 * (p3 : Int)) := by
      have := c3 rfl
      rcases (show p3 = 0 ∨ p3 = 1 by omega) with rfl | rfl <;> exact IntWalk.i64_in _ (by omega)
    rw [show (true && true && true && true) = true from rfl, if_pos rfl, if_pos rfl] at HS
    clear i0 i2 c1 c3
    generalize 1 - 2 * (p1 : Int) = t1 at *
    generalize 1 - 2 * (p3 : Int) = t3 at *
    unfold rv at HA0 HA1 HA2 HA3 ⊢
    go_enter Tryz.func113, Tryz.ntmps113
    go_upto_region 1 with fail
    go_upto_region 2 with (go_at_call 127; refine (HA0 _ _ HH.out).out.mono ?_; rintro e w1 ⟨rfl, hh, gg⟩; replace HH := Lib.hid hh; replace G := Lib.hid (G.out.trans gg); clear d0 d1 hh gg HA0; obtain ⟨d0, d1⟩ := KB _ G.out)
    go_upto_region 3 with (go_at_call 128; refine (HA1 _ _ HH.out).out.mono ?_; rintro e w2 ⟨rfl, hh, gg⟩; replace HH := Lib.hid hh; replace G := Lib.hid (G.out.trans gg); clear d0 d1 hh gg HA1; obtain ⟨d0, d1⟩ := KB _ G.out)
    go_upto_region 4 with (go_at_call 127; refine (HA2 _ _ HH.out).out.mono ?_; rintro e w3 ⟨rfl, hh, gg⟩; replace HH := Lib.hid hh; replace G := Lib.hid (G.out.trans gg); clear d0 d1 hh gg HA2; obtain ⟨d0, d1⟩ := KB _ G.out)
    go_upto_region 5 with (go_at_call 128; refine (HA3 _ _ HH.out).out.mono ?_; rintro e w4 ⟨rfl, hh, gg⟩; replace HH := Lib.hid hh; replace G := Lib.hid (G.out.trans gg); clear d0 d1 hh gg HA3; obtain ⟨d0, d1⟩ := KB _ G.out)
    have k4 := HH.out.cellX 4 _ rfl
    have k12 := HH.out.cellX 12 _ rfl
    have k13 := HH.out.cellX 13 _ rfl
    have f4 := HH.out.frozenX 4
    have f12 := HH.out.frozenX 12
    have f13 := HH.out.frozenX 13
    go_wp2_with fail
    go_returns
    exact ⟨rfl, by rw [HS.out]; exact ((HH.out.p_hasPos true).p_lat (p0 * t1)).p_lon (p2 * t3), farX_put (farX_put (farX_put ((Far.of_grew GW.out).trans (farE_x G.out)) 4 _) 12 _) 13 _⟩
end
/- The program's sentences: what a reader's calls tell, by the fields' numbers. -/
section
variable {w w' : World} {S n c E X : Nat} {bs : List ByteArray} {s : Rs}
theorem Rd.ex (h : Rd w S n c bs E X s) (j : Nat) (hj : j < n) : ∃ x, bs[j]? = some x := ⟨_, List.getElem?_eq_getElem (by rw [h.len]; exact hj)⟩
theorem q_clock (h : Rd w S n c bs E X s) (j : Nat) (hj : j < n) (r : (Nat × Nat × Nat × Bool) × Nat) (hr : clockOf (fb bs j) = r) : Calls Tryz.prog 111 #[rv S n c E, .int .i64 (j : Nat)] w
      (Rdt w S n c bs E X (s.1, s.2 || badE r.2) (.tuple #[.agg #[.int .i64 (r.1.1 : Nat), .int .i64 (r.1.2.1 : Nat), .int .i64 (r.1.2.2.1 : Nat), .bool r.1.2.2.2], .bool (r.2 == 0)])) := by
  obtain ⟨x, hx⟩ := h.ex j hj
  rw [fb_at hx] at hr
  subst hr
  exact r_clock h j x hx
theorem q_date (h : Rd w S n c bs E X s) (j : Nat) (hj : j < n) (r : (Nat × Nat × Nat) × Nat) (hr : dateOf (fb bs j) = r) : Calls Tryz.prog 115 #[rv S n c E, .int .i64 (j : Nat)] w
      (Rdt w S n c bs E X (s.1, s.2 || badE r.2) (.tuple #[.int .i64 (r.1.1 : Nat), .int .i64 (r.1.2.1 : Nat), .int .i64 (r.1.2.2 : Nat), .bool (r.2 == 0)])) := by
  obtain ⟨x, hx⟩ := h.ex j hj
  rw [fb_at hx] at hr
  subst hr
  exact r_date h j x hx
theorem q_active (h : Rd w S n c bs E X s) (j : Nat) (hj : j < n) (r : Nat × Nat) (hr : oneOf (fb bs j) [65, 86] = r) : Calls Tryz.prog 112 #[rv S n c E, .int .i64 (j : Nat)] w
      (Rdt w S n c bs E X (s.1, s.2 || badE r.2) (.bool (r.2 == 0 && r.1 == 0))) := by
  obtain ⟨x, hx⟩ := h.ex j hj
  rw [fb_at hx] at hr
  subst hr
  exact r_active h j x hx
theorem q_number (h : Rd w S n c bs E X s) (j : Nat) (hj : j < n) (l m : Int) (h1 : -9223372036854775808 ≤ l ∧ l ≤ 9223372036854775807) (h2 : -9223372036854775808 ≤ m ∧ m ≤ 9223372036854775807) (r : Int × Nat) (hr : intAns (fb bs j) l m = r) :
    Calls Tryz.prog 116 #[rv S n c E, .int .i64 (j : Nat), .int .i64 l, .int .i64 m] w
      (Rdt w S n c bs E X (s.1, s.2 || badE r.2) (.tuple #[.int .i64 r.1, .bool (r.2 == 0)])) := by
  obtain ⟨x, hx⟩ := h.ex j hj
  rw [fb_at hx] at hr
  subst hr
  exact r_number h j x hx l m h1 h2
theorem q_letter (h : Rd w S n c bs E X s) (j : Nat) (hj : j < n) (o : ByteArray) (ho : o.size ≤ 2000) (r : Nat × Nat) (hr : oneOf (fb bs j) (nat o) = r) :
    Calls Tryz.prog 118 #[rv S n c E, .int .i64 (j : Nat), .string o] w
      (Rdt w S n c bs E X (s.1, s.2 || badE r.2) (.tuple #[.int .i64 (r.1 : Nat), .bool (r.2 == 0)])) := by
  obtain ⟨x, hx⟩ := h.ex j hj
  rw [fb_at hx] at hr
  subst hr
  exact r_letter h j x hx o ho
theorem q_fixed (h : Rd w S n c bs E X s) (j : Nat) (hj : j < n) (p : Int) (hp : -9223372036854775808 ≤ p ∧ p ≤ 9223372036854775807) (r : Int × Nat) (hr : fixedOf (fb bs j) p = r) :
    Calls Tryz.prog 117 #[rv S n c E, .int .i64 (j : Nat), .int .i64 p] w
      (Rdt w S n c bs E X (s.1, s.2 || badE r.2) (.int .i64 r.1)) := by
  obtain ⟨x, hx⟩ := h.ex j hj
  rw [fb_at hx] at hr
  subst hr
  exact r_fixed h j x hx p hp
theorem q_unsigned (h : Rd w S n c bs E X s) (j : Nat) (hj : j < n) (p : Int) (hp : -9223372036854775808 ≤ p ∧ p ≤ 9223372036854775807) (u : Int) (hu : uOf (fb bs) j p = u) (b : Bool) (hb : unsBad (fb bs j) p = b) :
    Calls Tryz.prog 114 #[rv S n c E, .int .i64 (j : Nat), .int .i64 p] w
      (Rdt w S n c bs E X (s.1, s.2 || b) (.int .i64 u)) := by
  obtain ⟨x, hx⟩ := h.ex j hj
  unfold uOf at hu
  rw [fb_at hx] at hu hb
  subst hu hb
  exact r_unsigned h j x hx p hp
theorem q_position (h : Rd w S n c bs E X s) (j : Nat) (hj : j + 3 < n) :
    Calls Tryz.prog 113 #[rv S n c E, .int .i64 (j : Nat), .pointer (some ⟨X, 0, none⟩)] w (Rdx w S n c bs E X (sPos (fb bs) j s)) := by
  obtain ⟨x0, h0⟩ := h.ex j (by omega)
  obtain ⟨x1, h1⟩ := h.ex (j + 1) (by omega)
  obtain ⟨x2, h2⟩ := h.ex (j + 2) (by omega)
  obtain ⟨x3, h3⟩ := h.ex (j + 3) (by omega)
  exact r_position h j x0 x1 x2 x3 h0 h1 h2 h3

theorem Rd.as {t u : Rs} (e : t = u) (h : Rd w S n c bs E X t) : Rd w S n c bs E X u := e ▸ h
theorem sTime_of {f : Nat → List Nat} {j : Nat} {r : (Nat × Nat × Nat × Bool) × Nat} (hr : clockOf (f j) = r) (s : Rs) : sTime f j s = ({ s.1 with time := r.1, hasTime := r.2 == 0 }, s.2 || badE r.2) := by
  subst hr; rfl
theorem sDate_of {f : Nat → List Nat} {j : Nat} {r : (Nat × Nat × Nat) × Nat} (hr : dateOf (f j) = r) (s : Rs) : sDate f j s = ({ s.1 with day := (r.1.1 : Nat), month := (r.1.2.1 : Nat), year := (r.1.2.2 : Nat), hasDate := r.2 == 0 }, s.2 || badE r.2) := by
  subst hr; rfl
theorem sActive_of {f : Nat → List Nat} {j : Nat} {r : Nat × Nat} (hr : oneOf (f j) [65, 86] = r) (s : Rs) : sActive f j s = ({ s.1 with valid := r.2 == 0 && r.1 == 0 }, s.2 || badE r.2) := by
  subst hr; rfl
theorem Rd.time {f : Nat → List Nat} {j : Nat} {r : (Nat × Nat × Nat × Bool) × Nat} (h : Rd w S n c bs E X (s.1, s.2 || badE r.2)) (hr : clockOf (f j) = r) :
    Rd (((((w.setCell ⟨X, 5, none⟩ (.int .i64 (r.1.1 : Nat))).setCell ⟨X, 6, none⟩ (.int .i64 (r.1.2.1 : Nat))).setCell ⟨X, 7, none⟩ (.int .i64 (r.1.2.2.1 : Nat))).setCell ⟨X, 8, none⟩ (.bool r.1.2.2.2)).setCell ⟨X, 2, none⟩ (.bool (r.2 == 0))) S n c bs E X (sTime f j s) := by
  rw [sTime_of hr]
  exact (h.p_time r.1.1 r.1.2.1 r.1.2.2.1 r.1.2.2.2).p_hasTime (r.2 == 0)
theorem farX_time {W : World} (h : FarX E X W w) (a b d g t : Value) : FarX E X W (((((w.setCell ⟨X, 5, none⟩ a).setCell ⟨X, 6, none⟩ b).setCell ⟨X, 7, none⟩ d).setCell ⟨X, 8, none⟩ g).setCell ⟨X, 2, none⟩ t) :=
  farX_put (farX_put (farX_put (farX_put (farX_put h 5 a) 6 b) 7 d) 8 g) 2 t
theorem box_keptX {B S n c E X : Nat} {W : World} (hB : B < W.heap.size) (hE : B ≠ E) (hX : B ≠ X) (d0 : W.cell? ⟨B, 0, none⟩ = some (.slice (some ⟨S, 0, none⟩) n c)) (d1 : W.cell? ⟨B, 1, none⟩ = some (.func (.func 50) #[] #[.pointer (some ⟨E, 0, none⟩)])) :
    ∀ w', FarX E X W w' → w'.cell? ⟨B, 0, none⟩ = some (.slice (some ⟨S, 0, none⟩) n c) ∧ w'.cell? ⟨B, 1, none⟩ = some (.func (.func 50) #[] #[.pointer (some ⟨E, 0, none⟩)]) :=
  fun w' g => ⟨(g.cell (p := ⟨B, 0, none⟩) hB (fun e => e.elim hE hX)).trans d0, (g.cell (p := ⟨B, 1, none⟩) hB (fun e => e.elim hE hX)).trans d1⟩
theorem int_in2 (S : List Nat) (l m : Int) (h : 0 ≤ l) (hm : 0 ≤ m) : 0 ≤ (intAns S l m).1 ∧ (intAns S l m).1 ≤ m := by
  unfold intAns
  repeat' split
  all_goals simp only
  all_goals omega
theorem sats_in (f : Nat → List Nat) (s : Rs) (h : s.1.sats = 0) : ∀ k : Nat, 0 ≤ (satsTo f k s).1.sats ∧ (satsTo f k s).1.sats ≤ k := by
  intro k
  induction k with
  | zero => rw [satsTo, h]; simp
  | succ k ih =>
    rw [satsTo]
    simp only
    split <;> omega
theorem zda_len (s : Rs) (n : Nat) : (s.1, s.2 || !((n : Int) == 4)) = (s.1, s.2 || (n != 4)) := by
  have : ((n : Int) == 4) = (n == 4) := by rw [Bool.eq_iff_iff, beq_iff_eq, beq_iff_eq]; omega
  rw [this]; rfl
theorem Rd.drew (h : Rd w S n c bs E X s) : FarE E w w.drew := Far.of_grew (Grew.refl w).drew
/-- A reader's box and one of its fields stay. -/
theorem box_field {B S n c E X j : Nat} {W w : World} {x : ByteArray} {bs : List ByteArray} {s : Rs} (hB : B < W.heap.size) (hE : B ≠ E) (h : Rd w S n c bs E X s) (g0 : FarX E X W w) (d0 : w.cell? ⟨B, 0, none⟩ = some (.slice (some ⟨S, 0, none⟩) n c)) (d1 : w.cell? ⟨B, 1, none⟩ = some (.func (.func 50) #[] #[.pointer (some ⟨E, 0, none⟩)])) (c0 : w.cell? ⟨S, j, none⟩ = some (.string x)) :
    ∀ w', FarE E w w' → w'.cell? ⟨B, 0, none⟩ = some (.slice (some ⟨S, 0, none⟩) n c) ∧ w'.cell? ⟨B, 1, none⟩ = some (.func (.func 50) #[] #[.pointer (some ⟨E, 0, none⟩)]) ∧ w'.cell? ⟨S, j, none⟩ = some (.string x) :=
  fun w' g => ⟨(g.cell (p := ⟨B, 0, none⟩) (Nat.lt_of_lt_of_le hB g0.size) hE).trans d0, (g.cell (p := ⟨B, 1, none⟩) (Nat.lt_of_lt_of_le hB g0.size) hE).trans d1, (g.cell (p := ⟨S, j, none⟩) h.hS h.SE).trans c0⟩
end
end Go.Proofs.YtnhigfkhdmkoeaaGreatDoor

namespace Go.Proofs.YtnhigfkhdmkoeaaGreatDoor
open Go.RowKit
set_option linter.unusedVariables false

/- The program's sentences: the fields that may not be empty. -/
/-- Places of fields, in memory. -/
def PlacesAt (w : World) (E : Nat) (v : Value) (ps : List Nat) : Prop :=
  ∃ A c, v = .slice A ps.length c ∧ ps.length ≤ c ∧ (0 < ps.length → ∃ g, A = some ⟨g, 0, none⟩ ∧ g < w.heap.size ∧ g ≠ E ∧ ∀ (i : Nat) p, ps[i]? = some p → w.cell? ⟨g, i, none⟩ = some (.int .i64 (p : Nat)))
/-- The first k of those fields may not be empty. -/
def needTo (f : Nat → List Nat) (ps : List Nat) : Nat → Rs → Rs
  | 0, s => s
  | k + 1, s => sNeed f (ps.getD k 0) (needTo f ps k s)
section
variable {w w' : World} {S n c E X : Nat} {bs : List ByteArray} {s : Rs}
theorem need_bool (x : ByteArray) (s : Rs) : (s.1, s.2 || !!x.toList.isEmpty) = (s.1, s.2 || (nat x).isEmpty) := by
  rw [Bool.not_not, is_empty]
  congr 2
  rw [Bool.eq_iff_iff, decide_eq_true_eq, List.isEmpty_iff_length_eq_zero, nat_length]
theorem ask_kept {B S n c E j : Nat} {w0 w : World} {x : ByteArray} (hB : B < w0.heap.size) (hE : B ≠ E) (g0 : FarE E w0 w) (hS : S < w.heap.size) (hSE : S ≠ E) (d0 : w0.cell? ⟨B, 0, none⟩ = some (.slice (some ⟨S, 0, none⟩) n c)) (d1 : w0.cell? ⟨B, 1, none⟩ = some (.func (.func 50) #[] #[.pointer (some ⟨E, 0, none⟩)])) (c0 : w.cell? ⟨S, j, none⟩ = some (.string x)) :
    ∀ w', FarE E w w' → w'.cell? ⟨B, 0, none⟩ = some (.slice (some ⟨S, 0, none⟩) n c) ∧ w'.cell? ⟨B, 1, none⟩ = some (.func (.func 50) #[] #[.pointer (some ⟨E, 0, none⟩)]) ∧ w'.cell? ⟨S, j, none⟩ = some (.string x) :=
  fun w' g => ⟨((g0.trans g).cell (p := ⟨B, 0, none⟩) hB hE).trans d0, ((g0.trans g).cell (p := ⟨B, 1, none⟩) hB hE).trans d1, (g.cell (p := ⟨S, j, none⟩) hS hSE).trans c0⟩
set_option maxHeartbeats 4000000 in
set_option maxRecDepth 100000 in
theorem r_need (h : Rd w S n c bs E X s) (v : Value) (ps : List Nat) (hp : PlacesAt w E v ps) (hps : ∀ (i : Nat) p, ps[i]? = some p → p < n) (hl : ps.length ≤ 100) :
    Calls Tryz.prog 51 #[rv S n c E, v] w (Rdt w S n c bs E X (needTo (fb bs) ps ps.length s) (.tuple #[])) := by
  obtain ⟨A, c', rfl, hc', hr⟩ := hp
  obtain ⟨W, hW, gW, ltW, d0, d1⟩ := boxR w S n c E
  have hEl := h.hE
  have hXl := h.hX
  have HH := Lib.hid (h.grew gW)
  have GW := Lib.hid gW
  have HR := Lib.hid hr
  have HPS := Lib.hid hps
  clear h gW hr hps
  unfold rv
  go_enter Tryz.func51, Tryz.ntmps51
  go_upto_region 1 with fail
  go_wp2_with fail
  go_loopw [5, 8] (fun q i wr => ∃ k : Nat, k ≤ ps.length ∧ i = .int .i64 (k : Nat) ∧ Hid (Rd wr S n c bs E X (needTo (fb bs) ps k s)) ∧ Hid (FarE E W wr)) (fun _ i _ => ps.length - (intOf i).toNat)
  case atStart => exact ⟨0, by omega, rfl, HH, Lib.hid (Far.refl _ _)⟩
  case round =>
  obtain ⟨k, hk, rfl, HK, GK⟩ := hrel
  by_cases hlt : k < ps.length
  · obtain ⟨g, rfl, hg, hgE, hcell⟩ := HR.out (by omega)
    obtain ⟨p, hp⟩ : ∃ p, ps[k]? = some p := ⟨_, List.getElem?_eq_getElem hlt⟩
    have kp := ((GK.out.cell (p := ⟨g, k, none⟩) (Nat.lt_of_lt_of_le hg GW.out.size) hgE).trans (GW.out.cell (p := ⟨g, k, none⟩) hg)).trans (hcell k p hp)
    have hpn := HPS.out k p hp
    obtain ⟨x, hx⟩ := HK.out.ex p hpn
    have cx := HK.out.fields p x hx
    have KS := ask_kept ltW (show w.heap.size ≠ E by omega) GK.out HK.out.hS HK.out.SE d0 d1 cx
    obtain ⟨q0, q1, q2⟩ := KS _ (Far.refl _ _)
    have GD := HK.out.drew
    have HA := fun b => Lib.hid (r_ask (HK.out.grew (Grew.refl _).drew) b)
    unfold Rdt rv at HA
    have k0 : (k : Int) < ps.length := by omega
    have k1 : (0 : Int) ≤ k := by omega
    have p0 : (p : Int) < n := by omega
    have p1 : (0 : Int) ≤ p := by omega
    have hcap := HK.out.cap
    have p2 : (p : Int) < c := by omega
    have HST := Lib.hid (show needTo (fb bs) ps (k + 1) s = ((needTo (fb bs) ps k s).1, (needTo (fb bs) ps k s).2 || (nat x).isEmpty) by
      rw [needTo, List.getD_eq_getElem?_getD, hp]
      show sNeed (fb bs) p _ = _
      unfold sNeed
      rw [fb_at hx])
    have HNB := Lib.hid (need_bool x (needTo (fb bs) ps k s))
    obtain ⟨N, hN⟩ : ∃ N, ps.length = N := ⟨_, rfl⟩
    clear hcell hp hx cx d0 d1 hN hcap
    go_wp2_with fail
    go_region_held3 (fun w' => w'.cell? ⟨w.heap.size, 0, none⟩ = some (.slice (some ⟨S, 0, none⟩) n c) ∧ w'.cell? ⟨w.heap.size, 1, none⟩ = some (.func (.func 50) #[] #[.pointer (some ⟨E, 0, none⟩)]) ∧ w'.cell? ⟨S, p, none⟩ = some (.string x)) (exact KS _ GD)
      (first | (go_at_call 73; refine (HA _).out.mono ?_; rintro e w4 ⟨rfl, hh, gg⟩; replace GD := GD.trans gg))
    go_wp2_with fail
    go_roundw
    case rel => exact ⟨k + 1, by omega, by simp, Lib.hid (Rd.as (by rw [HST.out, ← HNB.out]) hh), Lib.hid (GK.out.trans GD)⟩
    case measure => simp [intOf]; omega
  obtain rfl : k = ps.length := by omega
  go_wp2_with fail
  go_returns
  exact ⟨rfl, HK.out, (Far.of_grew GW.out).trans GK.out⟩
end
/- The program's sentences: the kinds, as the map holds them. -/
/-- Something new in memory. -/
theorem newO (w : World) (o : Obj) : ∃ W, w.alloc o = W ∧ Grew w W ∧ W.heap.size = w.heap.size + 1 ∧ W.heap[w.heap.size]? = some o :=
  ⟨_, rfl, (Grew.refl w).alloc _, by simp, heap_alloc_new w _⟩
/-- A key that is not there is put into a map. -/
theorem nk_put (w : World) (b : Nat) (es : Array MapEntry) (c : Nat) (x : ByteArray) (v : Value) (hb : w.heap[b]? = some (.map es c)) (hf : Instr.findNow .string (.string x) es.toList 0 = some none) :
    ∃ W, Sem.run Tryz.prog (Instr.mapUpdate 120 (.map (some b)) (.string x) v) w = .ok () W ∧ Far (fun k => k = b) w W ∧ W.heap.size = w.heap.size ∧ W.heap[b]? = some (.map (es.push { key := .string x, val := v, born := c }) (c + 1)) := by
  have hc : (Instr.checkKey false 10000 9 (.string x)).run Tryz.prog w = .ok () w := MapKept.run_checkKey (k := .string x) Tryz.underlying9 (by simp [MapKept.IsKey]) false 9999
  have hs := MapKept.heap_set (o' := .map (es.push { key := .string x, val := v, born := c }) (c + 1)) hb
  refine ⟨{ w with heap := w.heap.setIfInBounds b (.map (es.push { key := .string x, val := v, born := c }) (c + 1)) }, ?_, ⟨rfl, rfl, rfl, by simp, fun k _ hk => hs.2 k hk⟩, by simp, hs.1⟩
  simp [Instr.mapUpdate, run_underlying Tryz.underlying120, MapKept.run_getObj_map hb, hc, MapKept.run_findKey Tryz.underlying9 hf, MapKept.run_setObj_map _ hb, Result.andThen]
/-- A kind, as the map holds it. -/
def nkv (num least most : Int) (need : Value) (g : Nat) : Value := .agg #[.int .u8 num, .int .i64 least, .int .i64 most, need, .func (.func g) #[] #[]]
def nkeys : List ByteArray := [⟨#[82, 77, 67]⟩, ⟨#[71, 71, 65]⟩, ⟨#[71, 76, 76]⟩, ⟨#[71, 83, 65]⟩, ⟨#[90, 68, 65]⟩, ⟨#[86, 84, 71]⟩, ⟨#[71, 83, 86]⟩]
def nvals (M : Nat) : List Value := [nkv 1 11 13 (.slice (some ⟨M + 1, 0, none⟩) 1 1) 90, nkv 2 14 14 (.slice none 0 0) 91, nkv 3 6 7 (.slice (some ⟨M + 2, 0, none⟩) 1 1) 92, nkv 4 17 18 (.slice (some ⟨M + 3, 0, none⟩) 2 2) 93,
  nkv 5 6 6 (.slice none 0 0) 94, nkv 6 8 9 (.slice none 0 0) 95, nkv 7 3 20 (.slice (some ⟨M + 4, 0, none⟩) 3 3) 96]
def nkinds (M : Nat) (k : Nat) : Array MapEntry := ((List.range k).map fun i => { key := .string (nkeys.getD i ⟨#[]⟩), val := (nvals M).getD i (.int .i64 0), born := i }).toArray
theorem nkinds_push (M k : Nat) : (nkinds M k).push { key := .string (nkeys.getD k ⟨#[]⟩), val := (nvals M).getD k (.int .i64 0), born := k } = nkinds M (k + 1) := by
  unfold nkinds
  rw [List.range_succ, List.map_append]
  simp
theorem nkinds_none (M k : Nat) (h : k < 7) : Instr.findNow .string (.string (nkeys.getD k ⟨#[]⟩)) (nkinds M k).toList 0 = some none := by
  rcases (show k = 0 ∨ k = 1 ∨ k = 2 ∨ k = 3 ∨ k = 4 ∨ k = 5 ∨ k = 6 by omega) with rfl | rfl | rfl | rfl | rfl | rfl | rfl <;> rfl
/-- One kind more. -/
theorem nk_more (w : World) (M k : Nat) (hb : w.heap[M]? = some (.map (nkinds M k) k)) (h : k < 7) :
    ∃ W, Sem.run Tryz.prog (Instr.mapUpdate 120 (.map (some M)) (.string (nkeys.getD k ⟨#[]⟩)) ((nvals M).getD k (.int .i64 0))) w = .ok () W ∧ Far (fun j => j = M) w W ∧ W.heap.size = w.heap.size ∧ W.heap[M]? = some (.map (nkinds M (k + 1)) (k + 1)) := by
  have := nk_put w M (nkinds M k) k (nkeys.getD k ⟨#[]⟩) ((nvals M).getD k (.int .i64 0)) hb (nkinds_none M k h)
  rwa [nkinds_push] at this
/-- What the map's making leaves. -/
structure NKinds (w : World) (M : Nat) : Prop where
  map : w.heap[M]? = some (.map (nkinds M 7) 7)
  size : M + 5 ≤ w.heap.size
  r : w.heap[M + 1]? = some (.cells #[.int .i64 2] 3)
  l : w.heap[M + 2]? = some (.cells #[.int .i64 6] 3)
  a : w.heap[M + 3]? = some (.cells #[.int .i64 1, .int .i64 2] 3)
  v : w.heap[M + 4]? = some (.cells #[.int .i64 1, .int .i64 2, .int .i64 3] 3)
set_option maxHeartbeats 2000000 in
set_option maxRecDepth 100000 in
theorem nk_kinds (w : World) : Calls Tryz.prog 72 #[] w fun e w' => e = .returned (.map (some w.heap.size)) ∧ NKinds w' w.heap.size ∧ Grew w w' := by
  have hmm := @run_makeMap Tryz.prog
  obtain ⟨V0, hV0, g0, s0, m0⟩ := newO w (.map #[] 0)
  obtain ⟨V1, hV1, g1, s1, c1⟩ := newO V0 (.cells #[.int .i64 2] 3)
  obtain ⟨V2, i2, f2, s2, m2⟩ := nk_more V1 w.heap.size 0 ((g1.below.block _ (by omega)).trans m0) (by omega)
  obtain ⟨V3, i3, f3, s3, m3⟩ := nk_more V2 w.heap.size 1 m2 (by omega)
  obtain ⟨V4, hV4, g4, s4, c4⟩ := newO V3 (.cells #[.int .i64 6] 3)
  obtain ⟨V5, i5, f5, s5, m5⟩ := nk_more V4 w.heap.size 2 ((g4.below.block _ (by omega)).trans m3) (by omega)
  obtain ⟨V6, hV6, g6, s6, c6⟩ := newO V5 (.cells #[.int .i64 1, .int .i64 2] 3)
  obtain ⟨V7, i7, f7, s7, m7⟩ := nk_more V6 w.heap.size 3 ((g6.below.block _ (by omega)).trans m5) (by omega)
  obtain ⟨V8, i8, f8, s8, m8⟩ := nk_more V7 w.heap.size 4 m7 (by omega)
  obtain ⟨V9, i9, f9, s9, m9⟩ := nk_more V8 w.heap.size 5 m8 (by omega)
  obtain ⟨V10, hV10, g10, s10, c10⟩ := newO V9 (.cells #[.int .i64 1, .int .i64 2, .int .i64 3] 3)
  obtain ⟨V11, i11, f11, s11, m11⟩ := nk_more V10 w.heap.size 6 ((g10.below.block _ (by omega)).trans m9) (by omega)
  obtain ⟨M, hM⟩ : ∃ M, w.heap.size = M := ⟨_, rfl⟩
  have K : NKinds V11 M := by
    subst hM
    have z : V11.heap.size = w.heap.size + 5 := by omega
    refine ⟨m11, by omega, ?_, ?_, ?_, ?_⟩
    · rw [f11.block _ (by omega) (by omega), g10.below.block _ (by omega), f9.block _ (by omega) (by omega), f8.block _ (by omega) (by omega), f7.block _ (by omega) (by omega), g6.below.block _ (by omega), f5.block _ (by omega) (by omega), g4.below.block _ (by omega), f3.block _ (by omega) (by omega), f2.block _ (by omega) (by omega), ← s0]; exact c1
    · rw [f11.block _ (by omega) (by omega), g10.below.block _ (by omega), f9.block _ (by omega) (by omega), f8.block _ (by omega) (by omega), f7.block _ (by omega) (by omega), g6.below.block _ (by omega), f5.block _ (by omega) (by omega), show w.heap.size + 2 = V3.heap.size by omega]; exact c4
    · rw [f11.block _ (by omega) (by omega), g10.below.block _ (by omega), f9.block _ (by omega) (by omega), f8.block _ (by omega) (by omega), f7.block _ (by omega) (by omega), show w.heap.size + 3 = V5.heap.size by omega]; exact c6
    · rw [f11.block _ (by omega) (by omega), show w.heap.size + 4 = V9.heap.size by omega]; exact c10
  have G : Grew w V11 := by
    have e : ∀ (j : Nat), (fun j => j = w.heap.size) j → w.heap.size ≤ j := fun j hj => Nat.le_of_eq hj.symm
    have a2 := f2.grew (g0.trans g1) e
    have a3 := f3.grew a2 e
    have a5 := f5.grew (a3.trans g4) e
    have a7 := f7.grew (a5.trans g6) e
    have a9 := f9.grew (f8.grew a7 e) e
    exact f11.grew (a9.trans g10) e
  have t0 : V0.heap.size = w.heap.size + 1 := s0
  have t3 : V3.heap.size = w.heap.size + 2 := by omega
  have t5 : V5.heap.size = w.heap.size + 3 := by omega
  have t9 : V9.heap.size = w.heap.size + 4 := by omega
  have HK := Lib.hid K
  have HG := Lib.hid G
  have HM := Lib.hid hM
  clear K G hM s0 s1 s2 s3 s4 s5 s6 s7 s8 s9 s10 s11 m0 m2 m3 m5 m7 m8 m9 m11 c1 c4 c6 c10 f2 f3 f5 f7 f8 f9 f11 g0 g1 g4 g6 g10
  simp only [nkeys, nvals, nkv, List.getD_cons_zero, List.getD_cons_succ] at i2 i3 i5 i7 i8 i9 i11
  go_enter Tryz.func72, Tryz.ntmps72
  go_wp2_with fail
  go_ret
  rw [HM.out]
  exact ⟨rfl, HK.out, HG.out⟩
/- The program's sentences: a kind by a first field. -/
/-- A kind's variable. -/
structure KAt (w : World) (b : Nat) (x0 x1 x2 x3 x4 : Value) : Prop where
  lt : b < w.heap.size
  c0 : w.cell? ⟨b, 0, none⟩ = some x0
  c1 : w.cell? ⟨b, 1, none⟩ = some x1
  c2 : w.cell? ⟨b, 2, none⟩ = some x2
  c3 : w.cell? ⟨b, 3, none⟩ = some x3
  c4 : w.cell? ⟨b, 4, none⟩ = some x4
  f0 : w.frozen? ⟨b, 0, none⟩ = false
  f1 : w.frozen? ⟨b, 1, none⟩ = false
  f2 : w.frozen? ⟨b, 2, none⟩ = false
  f3 : w.frozen? ⟨b, 3, none⟩ = false
  f4 : w.frozen? ⟨b, 4, none⟩ = false
theorem KAt.of {w : World} {b : Nat} {x0 x1 x2 x3 x4 : Value} {t : TypeId} (h : w.heap[b]? = some (.cells #[x0, x1, x2, x3, x4] t)) : KAt w b x0 x1 x2 x3 x4 :=
  ⟨(Array.getElem?_eq_some_iff.1 h).1, by simp [World.cell?, h], by simp [World.cell?, h], by simp [World.cell?, h], by simp [World.cell?, h], by simp [World.cell?, h], by simp [World.frozen?, h], by simp [World.frozen?, h], by simp [World.frozen?, h], by simp [World.frozen?, h], by simp [World.frozen?, h]⟩
theorem KAt.grew {w w' : World} {b : Nat} {x0 x1 x2 x3 x4 : Value} (h : KAt w b x0 x1 x2 x3 x4) (g : Grew w w') : KAt w' b x0 x1 x2 x3 x4 :=
  ⟨Nat.lt_of_lt_of_le h.lt g.size, (g.cell (p := ⟨b, 0, none⟩) h.lt).trans h.c0, (g.cell (p := ⟨b, 1, none⟩) h.lt).trans h.c1, (g.cell (p := ⟨b, 2, none⟩) h.lt).trans h.c2, (g.cell (p := ⟨b, 3, none⟩) h.lt).trans h.c3, (g.cell (p := ⟨b, 4, none⟩) h.lt).trans h.c4,
   (g.frozen (p := ⟨b, 0, none⟩) h.lt).trans h.f0, (g.frozen (p := ⟨b, 1, none⟩) h.lt).trans h.f1, (g.frozen (p := ⟨b, 2, none⟩) h.lt).trans h.f2, (g.frozen (p := ⟨b, 3, none⟩) h.lt).trans h.f3, (g.frozen (p := ⟨b, 4, none⟩) h.lt).trans h.f4⟩
theorem newKind (w : World) : ∃ W, w.alloc (.cells #[.int .u8 0, .int .i64 0, .int .i64 0, .slice none 0 0, .nilFunc] 81) = W ∧ Grew w W ∧ W.heap[w.heap.size]? = some (.cells #[.int .u8 0, .int .i64 0, .int .i64 0, .slice none 0 0, .nilFunc] 81) ∧ W.heap.size = w.heap.size + 1 :=
  ⟨_, rfl, (Grew.refl w).alloc _, heap_alloc_new w _, by simp⟩
def kset (w : World) (b : Nat) (x0 x1 x2 x3 x4 : Value) : World := ((((w.setCell ⟨b, 0, none⟩ x0).setCell ⟨b, 1, none⟩ x1).setCell ⟨b, 2, none⟩ x2).setCell ⟨b, 3, none⟩ x3).setCell ⟨b, 4, none⟩ x4
theorem KAt.set0 {w : World} {b : Nat} {x0 x1 x2 x3 x4 : Value} (h : KAt w b x0 x1 x2 x3 x4) (y0 y1 y2 y3 y4 : Value) : KAt (kset w b y0 y1 y2 y3 y4) b y0 y1 y2 y3 y4 := by
  have ne : ∀ {i j : Nat}, i ≠ j → (⟨b, i, none⟩ : Addr) ≠ ⟨b, j, none⟩ := fun hj e => hj (by injection e)
  unfold kset
  refine ⟨by simpa [World.setCell] using h.lt, ?_, ?_, ?_, ?_, ?_, by simpa using h.f0, by simpa using h.f1, by simpa using h.f2, by simpa using h.f3, by simpa using h.f4⟩
  · rw [World.cell?_setCell_other _ _ _ _ (ne (by omega)), World.cell?_setCell_other _ _ _ _ (ne (by omega)), World.cell?_setCell_other _ _ _ _ (ne (by omega)), World.cell?_setCell_other _ _ _ _ (ne (by omega))]
    exact World.cell?_setCell_same _ _ _ h.c0
  · rw [World.cell?_setCell_other _ _ _ _ (ne (by omega)), World.cell?_setCell_other _ _ _ _ (ne (by omega)), World.cell?_setCell_other _ _ _ _ (ne (by omega))]
    exact World.cell?_setCell_same _ _ _ ((World.cell?_setCell_other _ _ _ _ (ne (by omega))).trans h.c1)
  · rw [World.cell?_setCell_other _ _ _ _ (ne (by omega)), World.cell?_setCell_other _ _ _ _ (ne (by omega))]
    exact World.cell?_setCell_same _ _ _ ((World.cell?_setCell_other _ _ _ _ (ne (by omega))).trans ((World.cell?_setCell_other _ _ _ _ (ne (by omega))).trans h.c2))
  · rw [World.cell?_setCell_other _ _ _ _ (ne (by omega))]
    exact World.cell?_setCell_same _ _ _ ((World.cell?_setCell_other _ _ _ _ (ne (by omega))).trans ((World.cell?_setCell_other _ _ _ _ (ne (by omega))).trans ((World.cell?_setCell_other _ _ _ _ (ne (by omega))).trans h.c3)))
  · exact World.cell?_setCell_same _ _ _ ((World.cell?_setCell_other _ _ _ _ (ne (by omega))).trans ((World.cell?_setCell_other _ _ _ _ (ne (by omega))).trans ((World.cell?_setCell_other _ _ _ _ (ne (by omega))).trans ((World.cell?_setCell_other _ _ _ _ (ne (by omega))).trans h.c4))))
theorem far_kset (w : World) (b : Nat) (x0 x1 x2 x3 x4 : Value) : Far (fun k => k = b) w (kset w b x0 x1 x2 x3 x4) :=
  Far.setCell (F := fun k => k = b) (Far.setCell (F := fun k => k = b) (Far.setCell (F := fun k => k = b) (Far.setCell (F := fun k => k = b) (Far.one w ⟨b, 0, none⟩ x0) (p := ⟨b, 1, none⟩) rfl x1) (p := ⟨b, 2, none⟩) rfl x2) (p := ⟨b, 3, none⟩) rfl x3) (p := ⟨b, 4, none⟩) rfl x4
def zeroKind : Value := .agg #[.int .u8 0, .int .i64 0, .int .i64 0, .slice none 0 0, .nilFunc]
theorem NKinds.grew {w w' : World} {M : Nat} (h : NKinds w M) (g : Grew w w') : NKinds w' M := by
  have hs := h.size
  exact ⟨(g.below.block _ (by omega)).trans h.map, Nat.le_trans hs g.size, (g.below.block _ (by omega)).trans h.r, (g.below.block _ (by omega)).trans h.l, (g.below.block _ (by omega)).trans h.a, (g.below.block _ (by omega)).trans h.v⟩
theorem NKinds.far {w w' : World} {M b : Nat} (h : NKinds w M) (g : Far (fun k => k = b) w w') (hb : b < M ∨ M + 5 ≤ b) : NKinds w' M := by
  have hs := h.size
  exact ⟨(g.block _ (by omega) (by omega)).trans h.map, Nat.le_trans hs g.size, (g.block _ (by omega) (by omega)).trans h.r, (g.block _ (by omega) (by omega)).trans h.l, (g.block _ (by omega) (by omega)).trans h.a, (g.block _ (by omega) (by omega)).trans h.v⟩

theorem nk_zero (w : World) : Sem.run Tryz.prog (zeroValue 81) w = .ok zeroKind w := by kernel_rfl
theorem nkinds_empty (M : Nat) : (nkinds M 7).isEmpty = false := rfl
theorem nk_found (w : World) (M k : Nat) (hb : w.heap[M]? = some (.map (nkinds M 7) 7)) (hk : k < 7) :
    Sem.run Tryz.prog (Instr.lookup 120 (.map (some M)) (.string (nkeys.getD k ⟨#[]⟩)) true) w = .ok (.tuple #[(nvals M).getD k (.int .i64 0), .bool true]) w := by
  have hf : Instr.findNow .string (.string (nkeys.getD k ⟨#[]⟩)) (nkinds M 7).toList 0 = some (some (k, (nvals M).getD k (.int .i64 0))) := by
    rcases (show k = 0 ∨ k = 1 ∨ k = 2 ∨ k = 3 ∨ k = 4 ∨ k = 5 ∨ k = 6 by omega) with rfl | rfl | rfl | rfl | rfl | rfl | rfl <;> rfl
  have hc : (Instr.checkKey (nkinds M 7).isEmpty 10000 9 (.string (nkeys.getD k ⟨#[]⟩))).run Tryz.prog w = .ok () w := MapKept.run_checkKey (k := .string _) Tryz.underlying9 (by simp [MapKept.IsKey]) _ 9999
  generalize nkeys.getD k ⟨#[]⟩ = x at *
  simp [Instr.lookup, run_underlying Tryz.underlying120, MapKept.run_getObj_map hb, hc, MapKept.run_findKey Tryz.underlying9 hf, Result.andThen]
theorem nkinds_keys (M : Nat) : ∀ x ∈ (nkinds M 7).toList, ∃ k, k < 7 ∧ x.key = .string (nkeys.getD k ⟨#[]⟩) := by
  intro x hx
  unfold nkinds at hx
  simp only [List.mem_map, List.mem_range] at hx
  obtain ⟨k, hk, rfl⟩ := hx
  exact ⟨k, hk, rfl⟩
theorem nk_lost (w : World) (M : Nat) (x : ByteArray) (hb : w.heap[M]? = some (.map (nkinds M 7) 7)) (hx : ∀ k, k < 7 → x ≠ nkeys.getD k ⟨#[]⟩) :
    Sem.run Tryz.prog (Instr.lookup 120 (.map (some M)) (.string x) true) w = .ok (.tuple #[zeroKind, .bool false]) w := by
  have hf : Instr.findNow .string (.string x) (nkinds M 7).toList 0 = some none := by
    rcases MapKept.findNow_spec (d := .string) (k := .string x) (by simp [MapKept.IsKey]) (nkinds M 7).toList 0 (fun y hy => by obtain ⟨k, _, e⟩ := nkinds_keys M y hy; rw [e]; simp [MapKept.IsKey]) with ⟨h, _⟩ | ⟨j, e, _, he, hk⟩
    · exact h
    · obtain ⟨k, h7, e2⟩ := nkinds_keys M e (List.mem_of_getElem? he)
      rw [e2] at hk
      simp only [Value.string.injEq] at hk
      exact absurd hk.symm (hx k h7)
  have hc : (Instr.checkKey (nkinds M 7).isEmpty 10000 9 (.string x)).run Tryz.prog w = .ok () w := MapKept.run_checkKey (k := .string x) Tryz.underlying9 (by simp [MapKept.IsKey]) _ 9999
  have kz := nk_zero w
  simp [Instr.lookup, run_underlying Tryz.underlying120, MapKept.run_getObj_map hb, hc, MapKept.run_findKey Tryz.underlying9 hf, Result.andThen, kz]

/-- Letters are a kind's key, or none. -/
theorem letters_key (x : ByteArray) : (lettersOf (nat x) = 0 ∧ ∀ k, k < 7 → x ≠ nkeys.getD k ⟨#[]⟩) ∨ ∃ k, k < 7 ∧ lettersOf (nat x) = k + 1 ∧ x = nkeys.getD k ⟨#[]⟩ := by
  by_cases h : ∃ k, k < 7 ∧ x = nkeys.getD k ⟨#[]⟩
  · obtain ⟨k, hk, rfl⟩ := h
    refine .inr ⟨k, hk, ?_, rfl⟩
    rcases (show k = 0 ∨ k = 1 ∨ k = 2 ∨ k = 3 ∨ k = 4 ∨ k = 5 ∨ k = 6 by omega) with rfl | rfl | rfl | rfl | rfl | rfl | rfl <;> rfl
  · refine .inl ⟨?_, fun k hk e => h ⟨k, hk, e⟩⟩
    have g : ∀ k, k < 7 → nat x ≠ nat (nkeys.getD k ⟨#[]⟩) := fun k hk e => h ⟨k, hk, nat_ext e⟩
    unfold lettersOf
    rw [if_neg (show ¬ nat x = [82, 77, 67] from g 0 (by omega)), if_neg (show ¬ nat x = [71, 71, 65] from g 1 (by omega)), if_neg (show ¬ nat x = [71, 76, 76] from g 2 (by omega)), if_neg (show ¬ nat x = [71, 83, 65] from g 3 (by omega)), if_neg (show ¬ nat x = [90, 68, 65] from g 4 (by omega)), if_neg (show ¬ nat x = [86, 84, 71] from g 5 (by omega)), if_neg (show ¬ nat x = [71, 83, 86] from g 6 (by omega))]
/-- What is told of a first field's kind. -/
def KindT (s : ByteArray) (w : World) (e : Ending) (w' : World) : Prop :=
  Grew w w' ∧ ((kindOfN (nat s) = 0 ∧ e = .returned (.tuple #[zeroKind, .bool false])) ∨ ∃ k M, k < 7 ∧ kindOfN (nat s) = k + 1 ∧ e = .returned (.tuple #[(nvals M).getD k (.int .i64 0), .bool true]) ∧ NKinds w' M ∧ w.heap.size ≤ M)
end Go.Proofs.YtnhigfkhdmkoeaaGreatDoor

namespace Go.Proofs.YtnhigfkhdmkoeaaGreatDoor
open Go.RowKit
set_option linter.unusedVariables false

theorem nvals_form (M k : Nat) (hk : k < 7) : ∃ a b d v g, (nvals M).getD k (.int .i64 0) = .agg #[.int .u8 a, .int .i64 b, .int .i64 d, v, .func (.func g) #[] #[]] ∧ ∃ A m c, v = .slice A m c := by
  rcases (show k = 0 ∨ k = 1 ∨ k = 2 ∨ k = 3 ∨ k = 4 ∨ k = 5 ∨ k = 6 by omega) with rfl | rfl | rfl | rfl | rfl | rfl | rfl <;> exact ⟨_, _, _, _, _, rfl, _, _, _, rfl⟩
theorem kind_no {s : ByteArray} {j : Nat} (h2 : 2 ≤ s.size) (hj : j < 2) (hc : capital (wd (nat s) j) = false) : kindOfN (nat s) = 0 := by
  unfold kindOfN
  rw [if_pos]
  rcases (show j = 0 ∨ j = 1 by omega) with rfl | rfl
  · exact .inr (.inl hc)
  · exact .inr (.inr hc)
theorem kind_yes {s : ByteArray} (h2 : 2 ≤ s.size) (h0 : ∀ j, j < 2 → capital (wd (nat s) j) = true) : kindOfN (nat s) = lettersOf (nat (s.extract 2 s.size)) := by
  unfold kindOfN
  rw [if_neg, drop_nat]
  rintro (h | h | h)
  · rw [nat_length] at h; omega
  · rw [h0 0 (by omega)] at h; cases h
  · rw [h0 1 (by omega)] at h; cases h
/-- Behind the map's look-up: the kind's variable, and whether there is one. -/
def Looked9 (W : World) (k : Option Nat) (p q : Value) (wx : World) : Prop :=
  ∃ (vb : Nat), p = .pointer (some ⟨vb, 0, none⟩) ∧ W.heap.size ≤ vb ∧ Grew W wx ∧
    ((k = none ∧ q = .bool false ∧ KAt wx vb (.int .u8 0) (.int .i64 0) (.int .i64 0) (.slice none 0 0) .nilFunc) ∨
     ∃ (j M : Nat) (a b d : Int) (A : Option Addr) (m c g : Nat), k = some j ∧ q = .bool true ∧ KAt wx vb (.int .u8 a) (.int .i64 b) (.int .i64 d) (.slice A m c) (.func (.func g) #[] #[]) ∧ (nvals M).getD j (.int .i64 0) = .agg #[.int .u8 a, .int .i64 b, .int .i64 d, .slice A m c, .func (.func g) #[] #[]] ∧ NKinds wx M ∧ W.heap.size ≤ M)
theorem nk_kindsM (w : World) (M : Nat) (hM : w.heap.size = M) : Calls Tryz.prog 72 #[] w fun e w' => e = .returned (.map (some M)) ∧ NKinds w' M ∧ Grew w w' := by
  subst hM; exact nk_kinds w
set_option maxHeartbeats 4000000 in
set_option maxRecDepth 100000 in
theorem nk_kindOf (s : ByteArray) (w : World) (hs : s.size ≤ 2000) : Calls Tryz.prog 49 #[.string s] w (KindT s w) := by
  obtain ⟨W, hW, gW, cW, sW⟩ := newKind w
  have K0 := KAt.of cW
  have FZ := fun (V : World) => Lib.hid (far_kset V w.heap.size (.int .u8 0) (.int .i64 0) (.int .i64 0) (.slice none 0 0) .nilFunc)
  unfold kset at FZ
  have HG := Lib.hid gW
  by_cases h2 : s.size < 2
  · have hk : Hid (kindOfN (nat s) = 0) := by show _ = _; unfold kindOfN; rw [if_pos (.inl (by rw [nat_length]; exact h2))]
    have c2 : (s.size : Int) < 2 := by omega
    obtain ⟨_, a0, a1, a2, a3, a4, b0, b1, b2, b3, b4⟩ := K0
    clear gW cW sW h2
    go_enter Tryz.func49, Tryz.ntmps49
    go_wp2_with fail
    refine bodyPost_ret (by simp [results, Tryz.results49, go_sem, a0, a1, a2, a3, a4]; try rfl) rfl ?_
    exact ⟨Far.grew (FZ _).out HG.out (fun k hk => Nat.le_of_eq hk.symm), .inl ⟨hk.out, rfl⟩⟩
  · have c2 : ¬ (s.size : Int) < 2 := by omega
    have HA := fun j h w => Lib.hid (str_at s j h w)
    have HB := fun j => Lib.hid (nat_lt s j)
    have HNO := fun j h h' => Lib.hid (kind_no (s := s) (j := j) (by omega) h h')
    have HYES := Lib.hid (fun h => kind_yes (s := s) (by omega) h)
    go_enter Tryz.func49, Tryz.ntmps49
    go_wp2_with fail
    go_loop [4, 11] (fun _ i => ∃ j : Nat, j ≤ 2 ∧ i = .int .i64 (j : Nat) ∧ Hid (∀ q, q < j → capital (wd (nat s) q) = true)) (fun _ i => 2 - (intOf i).toNat)
    case atStart => exact ⟨0, by omega, rfl, fun q hq => by omega⟩
    case round =>
    obtain ⟨j, hj, rfl, hM⟩ := hrel
    by_cases hlt : j < 2
    · have y := fun w => (HA j (by omega) w).out
      have x256 := (HB j).out
      have j0 : (j : Int) < 2 := by omega
      have j1 : (0 : Int) ≤ j := by omega
      obtain ⟨c, hc⟩ : ∃ c, wd (nat s) j = c := ⟨_, rfl⟩
      have HN := HNO j hlt
      rw [hc] at y x256 HN
      have HC := Lib.hid hc
      clear hc HA HB HNO HYES
      by_cases hlo : c < 65
      · have l1 : (c : Int) < 65 := by omega
        have hk := HN (by unfold capital; exact decide_eq_false (by omega))
        obtain ⟨_, a0, a1, a2, a3, a4, b0, b1, b2, b3, b4⟩ := K0
        clear HN hlo hM cW sW
        go_wp2_with fail
        refine bodyPost_ret (by simp [results, Tryz.results49, go_sem, a0, a1, a2, a3, a4]; try rfl) rfl ?_
        exact ⟨Far.grew (FZ _).out HG.out (fun k hk => Nat.le_of_eq hk.symm), .inl ⟨hk.out, rfl⟩⟩
      · by_cases hhi : 90 < c
        · have l1 : ¬ (c : Int) < 65 := by omega
          have l2 : (90 : Int) < c := by omega
          have hk := HN (by unfold capital; exact decide_eq_false (by omega))
          obtain ⟨_, a0, a1, a2, a3, a4, b0, b1, b2, b3, b4⟩ := K0
          clear HN hlo hhi hM cW sW
          go_wp2_with fail
          refine bodyPost_ret (by simp [results, Tryz.results49, go_sem, a0, a1, a2, a3, a4]; try rfl) rfl ?_
          exact ⟨Far.grew (FZ _).out HG.out (fun k hk => Nat.le_of_eq hk.symm), .inl ⟨hk.out, rfl⟩⟩
        · have l1 : ¬ (c : Int) < 65 := by omega
          have l2 : ¬ (90 : Int) < c := by omega
          have HM2 : Hid (∀ q, q < j + 1 → capital (wd (nat s) q) = true) := fun q hq => by
            rcases Nat.lt_or_ge q j with h | h
            · exact hM.out q h
            · obtain rfl : q = j := by omega
              rw [HC.out]; unfold capital; exact decide_eq_true (by omega)
          clear HN hlo hhi hM cW sW
          go_wp2_with fail
          go_round
          case rel => exact ⟨j + 1, by omega, by simp, HM2⟩
          case measure => simp [intOf]; omega
    obtain rfl : j = 2 := by omega
    have HY := Lib.hid (HYES.out (fun q hq => hM.out q hq))
    have s2 : (2 : Int) ≤ s.size := by omega
    clear HA HB HNO HYES hM
    go_upto_region 9 with fail
    have sW2 : (W.drew.alloc (.cells #[.int .u8 0, .int .i64 0, .int .i64 0, .slice none 0 0, .nilFunc] 81)).heap.size = w.heap.size + 2 := by
      rw [World.size_alloc]; show W.heap.size + 1 = _; omega
    have KZ : KAt (W.drew.alloc (.cells #[.int .u8 0, .int .i64 0, .int .i64 0, .slice none 0 0, .nilFunc] 81)) (w.heap.size + 1) (.int .u8 0) (.int .i64 0) (.int .i64 0) (.slice none 0 0) .nilFunc := by
      have := KAt.of (heap_alloc_new W.drew (.cells #[.int .u8 0, .int .i64 0, .int .i64 0, .slice none 0 0, .nilFunc] 81))
      rwa [show W.drew.heap.size = w.heap.size + 1 from sW] at this
    have GD : Grew W W.drew := (Grew.refl W).drew
    have GDA : Grew W (W.drew.alloc (.cells #[.int .u8 0, .int .i64 0, .int .i64 0, .slice none 0 0, .nilFunc] 81)) := GD.alloc _
    rcases letters_key (s.extract 2 s.size) with ⟨h0, hne⟩ | ⟨k, hk, hl, hx⟩
    · rw [h0] at HY
      have HL := fun w M h => Lib.hid (nk_lost w M (s.extract 2 s.size) h hne)
      unfold zeroKind at HL
      clear h0 hne cW
      go_cut [5, 6] (fun p q wx => Looked9 W none p q wx)
      case first =>
        go_region_with (first
          | (go_at_call 72; refine (nk_kindsM W.drew (w.heap.size + 1) sW).mono ?_; rintro e w1 ⟨rfl, hN, g1⟩; have hlk := (HL _ _ hN.map).out; have hlk2 := (HL _ _ (hN.grew ((Grew.refl w1).alloc (.cells #[.int .u8 0, .int .i64 0, .int .i64 0, .slice none 0 0, .nilFunc] 81))).map).out)
          | (go_at_call 72; refine (nk_kindsM (W.drew.alloc (.cells #[.int .u8 0, .int .i64 0, .int .i64 0, .slice none 0 0, .nilFunc] 81)) (w.heap.size + 2) sW2).mono ?_; rintro e w1 ⟨rfl, hN, g1⟩; have hlk := (HL _ _ hN.map).out; obtain ⟨_, z0, z1, z2, z3, z4, y0, y1, y2, y3, y4⟩ := KZ.grew g1))
        all_goals
          go_wp2_with fail
          go_meet
          first
            | exact ⟨_, rfl, (GD.trans g1).size, (GD.trans g1).alloc _, .inl ⟨rfl, rfl, KAt.of (heap_alloc_new w1 _)⟩⟩
            | exact ⟨_, rfl, Nat.le_of_eq sW, Far.grew (far_kset w1 _ _ _ _ _ _) (GDA.trans g1) (fun j hj => by have hj' : j = w.heap.size + 1 := hj; omega), .inl ⟨rfl, rfl, KAt.set0 (KZ.grew g1) _ _ _ _ _⟩⟩
      case rest =>
        obtain ⟨vb, rfl, hvb, gx, ⟨_, rfl, KX⟩ | ⟨j, M, a, b, d, A, m, c, g, hj, _⟩⟩ := hcut
        · obtain ⟨_, a0, a1, a2, a3, a4, b0, b1, b2, b3, b4⟩ := K0.grew gx
          obtain ⟨_, z0, z1, z2, z3, z4, _⟩ := KX
          clear K0 KZ GD GDA sW2
          go_wp2_with fail
          refine bodyPost_ret (by simp [results, Tryz.results49, go_sem, a0, a1, a2, a3, a4]; try rfl) rfl ?_
          exact ⟨Far.grew (far_kset wc w.heap.size (.int .u8 0) (.int .i64 0) (.int .i64 0) (.slice none 0 0) .nilFunc) (HG.out.trans gx) (fun k hk => Nat.le_of_eq hk.symm), .inl ⟨HY.out, rfl⟩⟩
        · cases hj
    · rw [hl] at HY
      have HL : ∀ w M, w.heap[M]? = some (.map (nkinds M 7) 7) → Hid (Sem.run Tryz.prog (Instr.lookup 120 (.map (some M)) (.string (s.extract 2 s.size)) true) w = .ok (.tuple #[(nvals M).getD k (.int .i64 0), .bool true]) w) := fun w M h => by
        rw [hx]; exact nk_found w M k h hk
      have HK := Lib.hid hk
      clear hl hx cW
      go_cut [5, 6] (fun p q wx => Looked9 W (some k) p q wx)
      case first =>
        obtain ⟨a, b, d, v, g, hv, A, m, c, rfl⟩ := nvals_form (w.heap.size + 1) k hk
        obtain ⟨a', b', d', v', g', hv', A', m', c', rfl⟩ := nvals_form (w.heap.size + 2) k hk
        have HV := Lib.hid hv
        have HV' := Lib.hid hv'
        have HL1 : ∀ w2 : World, w2.heap[w.heap.size + 1]? = some (.map (nkinds (w.heap.size + 1) 7) 7) → Hid _ := fun w2 h => by have := (HL w2 _ h).out; rw [hv] at this; exact this
        have HL2 : ∀ w2 : World, w2.heap[w.heap.size + 2]? = some (.map (nkinds (w.heap.size + 2) 7) 7) → Hid _ := fun w2 h => by have := (HL w2 _ h).out; rw [hv'] at this; exact this
        clear HL hv hv' hk
        go_region_with (first
          | (go_at_call 72; refine (nk_kindsM W.drew (w.heap.size + 1) sW).mono ?_; rintro e w1 ⟨rfl, hN, g1⟩; have hlk := (HL1 _ hN.map).out; have hlk2 := (HL1 _ (hN.grew ((Grew.refl w1).alloc (.cells #[.int .u8 0, .int .i64 0, .int .i64 0, .slice none 0 0, .nilFunc] 81))).map).out)
          | (go_at_call 72; refine (nk_kindsM (W.drew.alloc (.cells #[.int .u8 0, .int .i64 0, .int .i64 0, .slice none 0 0, .nilFunc] 81)) (w.heap.size + 2) sW2).mono ?_; rintro e w1 ⟨rfl, hN, g1⟩; have hlk := (HL2 _ hN.map).out; obtain ⟨_, z0, z1, z2, z3, z4, y0, y1, y2, y3, y4⟩ := KZ.grew g1))
        all_goals
          go_wp2_with fail
          go_meet
          first
            | exact ⟨_, rfl, (GD.trans g1).size, (GD.trans g1).alloc _, .inr ⟨k, w.heap.size + 1, a, b, d, A, m, c, g, rfl, rfl, KAt.of (heap_alloc_new w1 _), HV.out, hN.grew ((Grew.refl w1).alloc _), Nat.le_of_eq sW⟩⟩
            | exact ⟨_, rfl, Nat.le_of_eq sW, Far.grew (far_kset w1 _ _ _ _ _ _) (GDA.trans g1) (fun j hj => by have hj' : j = w.heap.size + 1 := hj; omega), .inr ⟨k, w.heap.size + 2, a', b', d', A', m', c', g', rfl, rfl, KAt.set0 (KZ.grew g1) _ _ _ _ _, HV'.out, hN.far (far_kset w1 _ _ _ _ _ _) (.inl (by omega)), by omega⟩⟩
      case rest =>
        obtain ⟨vb, rfl, hvb, gx, ⟨hj, _⟩ | ⟨j, M, a, b, d, A, m, c, g, hj, rfl, KX, hv, hN, hM⟩⟩ := hcut
        · cases hj
        · cases hj
          obtain ⟨_, a0, a1, a2, a3, a4, b0, b1, b2, b3, b4⟩ := K0.grew gx
          obtain ⟨_, z0, z1, z2, z3, z4, _⟩ := KX
          have HV := Lib.hid hv
          have hb := sW
          clear K0 KZ GD GDA sW2 hv HL hk
          go_wp2_with fail
          refine bodyPost_ret (by simp [results, Tryz.results49, go_sem, a0, a1, a2, a3, a4]; try rfl) rfl ?_
          have FW := far_kset wc w.heap.size (.int .u8 a) (.int .i64 b) (.int .i64 d) (.slice A m c) (.func (.func g) #[] #[])
          exact ⟨Far.grew FW (HG.out.trans gx) (fun k hk => Nat.le_of_eq hk.symm), .inr ⟨k, M, HK.out, HY.out, by rw [HV.out], hN.far FW (.inl (by omega)), by omega⟩⟩
end Go.Proofs.YtnhigfkhdmkoeaaGreatDoor


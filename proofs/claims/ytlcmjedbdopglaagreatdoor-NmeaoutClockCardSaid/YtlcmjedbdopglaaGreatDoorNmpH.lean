/-
  The program's sentences: minutes, angles.
  The program's sentences: angles, places.
  The program's sentences: a reader's places.
  The program's sentences: what a reader's calls tell, by the fields' numbers.
-/
import Derived.Test.YtlcmjedbdopglaaGreatDoorNmpD
namespace Go.Proofs.YtlcmjedbdopglaaGreatDoor
open Go.RowKit
set_option linter.unusedVariables false

/- The program's sentences: minutes, angles. -/
theorem min_err (S : List Nat) : (minOf S).2 < 1000 := by
  have h1 := int_err (S.take 2) 0 59
  have h2 := fixed_err S 5
  unfold minOf
  split
  · decide
  · split
    · exact h1
    · exact h2
theorem ang_err (S : List Nat) (d : Nat) (m : Int) : (angOf S d m).2 < 1000 := by
  unfold angOf
  repeat' split
  all_goals simp
theorem int_in (S : List Nat) (l m : Int) (h : l ≤ 0 ∧ 0 ≤ m) : l ≤ (intAns S l m).1 ∧ (intAns S l m).1 ≤ m := by
  unfold intAns
  split
  · exact h
  · split
    · exact h
    · split
      · exact h
      · rename_i h3
        simp only
        omega
theorem fixN_le (S : List Nat) (a : Nat) : ∀ (k base m : Nat), base ≤ m → (∀ i, wd S i < 256) → fixN S a base k ≤ (m + 256) * 11 ^ k := by
  intro k
  induction k with
  | zero => intro base m h _; rw [fixN]; omega
  | succ k ih =>
    intro base m h hB
    have h1 := ih base m h hB
    have h2 := hB (a + (k + 1))
    have h3 : 1 ≤ 11 ^ k := Nat.pow_pos (by omega)
    have h4 : 256 * 1 ≤ (m + 256) * 11 ^ k := Nat.mul_le_mul (by omega) h3
    rw [fixN, Nat.pow_succ, ← Nat.mul_assoc]
    generalize (m + 256) * 11 ^ k = q at *
    split <;> omega
theorem num_le (S : List Nat) (a : Nat) (hB : ∀ i, wd S i < 256) : ∀ k, numOf S a k ≤ 256 * 11 ^ k := by
  intro k
  induction k with
  | zero => rw [numOf]; omega
  | succ k ih =>
    have h2 := hB (a + k)
    have h3 : 1 ≤ 11 ^ k := Nat.pow_pos (by omega)
    rw [numOf, Nat.pow_succ, ← Nat.mul_assoc]
    omega
/-- Minutes are of less than a hundred. -/
theorem fixed_in (S : List Nat) (hB : ∀ i, wd S i < 256) (hp : pointOf S ≤ 2) : -1000000000000 ≤ (fixedOf S 5).1 ∧ (fixedOf S 5).1 ≤ 1000000000000 := by
  unfold fixedOf
  split
  · simp
  · split
    · simp
    · split
      · simp
      · split
        · simp
        · have h1 := num_le S (fromOf S) hB (pointOf S - fromOf S)
          have h2 : (11 : Nat) ^ (pointOf S - fromOf S) ≤ 11 ^ 2 := Nat.pow_le_pow_right (by omega) (by omega)
          have h3 := fixN_le S (pointOf S) 5 (numOf S (fromOf S) (pointOf S - fromOf S)) (256 * 121) (by omega) hB
          simp only [show (5 : Int).toNat = 5 from rfl]
          split <;> omega
theorem min_in (S : List Nat) (hB : ∀ i, wd S i < 256) : -1000000000000 ≤ (minOf S).1 ∧ (minOf S).1 ≤ 1000000000000 := by
  unfold minOf
  split
  · simp
  · split
    · simp
    · exact fixed_in S hB (by omega)
theorem take_nat (s : ByteArray) (k : Nat) : nat (s.extract 0 k) = (nat s).take k := by rw [nat_extract, List.drop_zero]
theorem drop_nat (s : ByteArray) (k : Nat) : nat (s.extract k s.size) = (nat s).drop k := by rw [nat_extract, ← nat_length, List.take_length]

set_option maxHeartbeats 1000000 in
theorem r_minutes (x : ByteArray) (w : World) (hs : x.size ≤ 1000) :
    Calls Tryz.prog 145 #[.string x] w fun e w' => e = .returned (.tuple #[.int .i64 (minOf (nat x)).1, .int .i64 ((minOf (nat x)).2 : Nat)]) ∧ Grew w w' := by
  have HC := fun w => fld_cut x 46 (pointOf (nat x)) w hs (point_place _).symm
  unfold parted at HC
  have hl := nat_length x
  have hpl := pointOf_le (nat x)
  have G := Lib.hid (Grew.refl w)
  have HU : minOf (nat x) = if pointOf (nat x) ≠ 2 then (0, 5) else if (intAns ((nat x).take 2) 0 59).2 ≠ 0 then (0, (intAns ((nat x).take 2) 0 59).2) else fixedOf (nat x) 5 := rfl
  have sz : (x.extract 0 (pointOf (nat x))).size = pointOf (nat x) := by rw [size_extract]; omega
  by_cases hp : pointOf (nat x) = 2
  · rw [if_neg (fun h => h hp)] at HU
    rw [hp] at HC sz
    have HI := fun w => fld_Int (x.extract 0 2) 0 59 w (by omega) (by decide) (by decide)
    rw [take_nat] at HI
    have HF := fun w => Lib.hid (fld_Fixed x 5 w hs (by decide))
    have z1 : ((x.extract 0 2).size : Int) = 2 := by omega
    have z2 : (((x.extract 0 2).size : Int) != 2) = false := by rw [z1]; rfl
    generalize x.extract 0 2 = a at *
    generalize x.extract (2 + 1) x.size = b at *
    generalize decide (2 < x.size) = d at *
    generalize intAns ((nat x).take 2) 0 59 = r at *
    obtain ⟨r1, r2⟩ := r
    by_cases hr : r2 = 0
    · subst hr
      rw [if_neg (by simp)] at HU
      have HV := Lib.hid HU
      replace HC := fun w => Lib.hid (HC w)
      replace HI := fun w => Lib.hid (HI w)
      clear HU hp hpl hl
      go_enter Tryz.func145, Tryz.ntmps145
      go_wp2_with (first | (go_at_call 142; refine (HC _).out.mono ?_; rintro e w1 ⟨rfl, g1⟩; replace G := Lib.hid (G.out.trans g1); clear g1) | (go_at_call 115; refine (HI _).out.mono ?_; rintro e w1 ⟨rfl, g1⟩; replace G := Lib.hid (G.out.trans g1); clear g1) | (go_at_call 116; refine (HF _).out.mono ?_; rintro e w1 ⟨rfl, g1⟩; replace G := Lib.hid (G.out.trans g1); clear g1))
      go_ret2
      exact ⟨by rw [HV.out]; rfl, G.out⟩
    · rw [if_pos hr] at HU
      have HV := Lib.hid HU
      have y0 : ((r2 : Int) != 0) = true := by simp; omega
      have y1 : ¬ (r2 : Int) = 0 := by omega
      replace HC := fun w => Lib.hid (HC w)
      replace HI := fun w => Lib.hid (HI w)
      clear HU hp hpl hl hr
      go_enter Tryz.func145, Tryz.ntmps145
      go_wp2_with (first | (go_at_call 142; refine (HC _).out.mono ?_; rintro e w1 ⟨rfl, g1⟩; replace G := Lib.hid (G.out.trans g1); clear g1) | (go_at_call 115; refine (HI _).out.mono ?_; rintro e w1 ⟨rfl, g1⟩; replace G := Lib.hid (G.out.trans g1); clear g1))
      go_ret2
      exact ⟨by rw [HV.out]; rfl, G.out⟩
  · rw [if_pos hp] at HU
    have HV := Lib.hid HU
    generalize pointOf (nat x) = p at *
    have z0 : (((x.extract 0 p).size : Int) != 2) = true := by simp; omega
    have z1 : ¬ ((x.extract 0 p).size : Int) = 2 := by omega
    generalize x.extract 0 p = a at *
    generalize x.extract (p + 1) x.size = b at *
    generalize decide (p < x.size) = d at *
    replace HC := fun w => Lib.hid (HC w)
    clear HU hp hpl hl sz
    go_enter Tryz.func145, Tryz.ntmps145
    go_wp2_with (first | (go_at_call 142; refine (HC _).out.mono ?_; rintro e w1 ⟨rfl, g1⟩; replace G := Lib.hid (G.out.trans g1); clear g1))
    go_ret2
    exact ⟨by rw [HV.out]; rfl, G.out⟩
/- The program's sentences: angles, places. -/
set_option maxHeartbeats 2000000 in
theorem n_angle (x : ByteArray) (d most : Nat) (w : World) (hs : x.size ≤ 1000) (hd : d ≤ 10) (hm : most ≤ 1000) :
    Calls Tryz.prog 134 #[.string x, .int .i64 (d : Nat), .int .i64 (most : Nat)] w fun e w' => e = .returned (.tuple #[.int .i64 (angOf (nat x) d most).1, .int .i64 ((angOf (nat x) d most).2 : Nat)]) ∧ Grew w w' := by
  have hl := nat_length x
  have G := Lib.hid (Grew.refl w)
  by_cases h0 : x.size = 0
  · have hV : Hid (angOf (nat x) d most = (0, 7)) := by show _ = _; unfold angOf; rw [if_pos (by omega)]
    have h0' := empty_of x h0
    subst h0'
    clear hl
    go_enter Tryz.func134, Tryz.ntmps134
    go_wp2_with fail
    go_ret2
    exact ⟨by rw [hV.out]; rfl, G.out⟩
  · have h0' : x.toList.isEmpty = false := by rw [is_empty]; simpa using h0
    obtain ⟨k, hk⟩ : ∃ k, min d x.size = k := ⟨_, rfl⟩
    have hU : angOf (nat x) d most = if (intAns ((nat x).take k) 0 most).2 ≠ 0 then (0, 5)
      else if (minOf ((nat x).drop k)).2 ≠ 0 ∨ (most : Int) * 6000000 < (intAns ((nat x).take k) 0 most).1 * 6000000 + (minOf ((nat x).drop k)).1 then (0, 5)
      else ((intAns ((nat x).take k) 0 most).1 * 6000000 + (minOf ((nat x).drop k)).1, 0) := by
      unfold angOf
      rw [if_neg (by omega), hl, hk]
    have hb1 := int_in ((nat x).take k) 0 most (by omega)
    have hb2 := min_in ((nat x).drop k) (fun i => by rw [← drop_nat]; exact nat_lt _ i)
    have HI := fun w => fld_Int (x.extract 0 k) 0 most w (by rw [size_extract]; omega) (by decide) (by omega)
    rw [take_nat] at HI
    have HM := fun w => r_minutes (x.extract k x.size) w (by rw [size_extract]; omega)
    rw [drop_nat] at HM
    have kx : (k : Int) ≤ x.size := by omega
    have k0 : (0 : Int) ≤ k := by omega
    generalize intAns ((nat x).take k) 0 most = r at *
    generalize minOf ((nat x).drop k) = q at *
    obtain ⟨r1, r2⟩ := r
    obtain ⟨q1, q2⟩ := q
    simp only at hb1 hb2 hU HI HM
    replace HI := fun w => Lib.hid (HI w)
    replace HM := fun w => Lib.hid (HM w)
    have hmin : min (d : Int) (x.size : Int) = (k : Int) := by omega
    clear hl hk h0
    by_cases hr : r2 = 0
    · subst hr
      rw [if_neg (by simp)] at hU
      by_cases hq : q2 = 0
      · subst hq
        have m1 : IntKind.i64.wrap (r1 * 6000000) = r1 * 6000000 := IntWalk.i64_in _ (by omega)
        have m2 : IntKind.i64.wrap (r1 * 6000000 + q1) = r1 * 6000000 + q1 := IntWalk.i64_in _ (by omega)
        have m3 : IntKind.i64.wrap ((most : Int) * 6000000) = (most : Int) * 6000000 := IntWalk.i64_in _ (by omega)
        by_cases ho : (most : Int) * 6000000 < r1 * 6000000 + q1
        · rw [if_pos (.inr ho)] at hU
          have HV := Lib.hid hU
          clear hU hb1 hb2
          go_enter Tryz.func134, Tryz.ntmps134
          go_wp2_with (first | (go_at_call 115; refine (HI _).out.mono ?_; rintro e w1 ⟨rfl, g1⟩; replace G := Lib.hid (G.out.trans g1); clear g1) | (go_at_call 145; refine (HM _).out.mono ?_; rintro e w1 ⟨rfl, g1⟩; replace G := Lib.hid (G.out.trans g1); clear g1))
          go_ret2
          exact ⟨by rw [HV.out]; rfl, G.out⟩
        · rw [if_neg (by rintro (h | h); exact h rfl; exact ho h)] at hU
          have HV := Lib.hid hU
          clear hU hb1 hb2
          go_enter Tryz.func134, Tryz.ntmps134
          go_wp2_with (first | (go_at_call 115; refine (HI _).out.mono ?_; rintro e w1 ⟨rfl, g1⟩; replace G := Lib.hid (G.out.trans g1); clear g1) | (go_at_call 145; refine (HM _).out.mono ?_; rintro e w1 ⟨rfl, g1⟩; replace G := Lib.hid (G.out.trans g1); clear g1))
          go_ret2
          exact ⟨by rw [HV.out]; rfl, G.out⟩
      · rw [if_pos (.inl hq)] at hU
        have HV := Lib.hid hU
        have y0 : ((q2 : Int) != 0) = true := by simp; omega
        have y1 : ¬ (q2 : Int) = 0 := by omega
        clear hU hb1 hb2 hq
        go_enter Tryz.func134, Tryz.ntmps134
        go_wp2_with (first | (go_at_call 115; refine (HI _).out.mono ?_; rintro e w1 ⟨rfl, g1⟩; replace G := Lib.hid (G.out.trans g1); clear g1) | (go_at_call 145; refine (HM _).out.mono ?_; rintro e w1 ⟨rfl, g1⟩; replace G := Lib.hid (G.out.trans g1); clear g1))
        go_ret2
        exact ⟨by rw [HV.out]; rfl, G.out⟩
    · rw [if_pos hr] at hU
      have HV := Lib.hid hU
      have y0 : ((r2 : Int) != 0) = true := by simp; omega
      have y1 : ¬ (r2 : Int) = 0 := by omega
      clear hU hb1 hb2 hr
      go_enter Tryz.func134, Tryz.ntmps134
      go_wp2_with (first | (go_at_call 115; refine (HI _).out.mono ?_; rintro e w1 ⟨rfl, g1⟩; replace G := Lib.hid (G.out.trans g1); clear g1))
      go_ret2
      exact ⟨by rw [HV.out]; rfl, G.out⟩
section
variable {w w' : World} {S n c E X : Nat} {bs : List ByteArray} {s : Rs}
set_option maxHeartbeats 1000000 in
theorem r_angle (h : Rd w S n c bs E X s) (j : Nat) (x : ByteArray) (hx : bs[j]? = some x) (d most : Nat) (hd : d ≤ 10) (hm : most ≤ 1000) :
    Calls Tryz.prog 112 #[rv S n c E, .int .i64 (j : Nat), .int .i64 (d : Nat), .int .i64 (most : Nat)] w
      (Rdt w S n c bs E X (s.1, s.2 || badE (angOf (nat x) d most).2) (.tuple #[.int .i64 (angOf (nat x) d most).1, .bool ((angOf (nat x) d most).2 == 0)])) := by
  obtain ⟨W, hW, gW, ltW, d0, d1⟩ := boxR w S n c E
  obtain ⟨j0, j1, j2, hs⟩ := h.at_ hx
  have hc := (h.grew gW).fields j x hx
  have HI := fun w => Lib.hid (n_angle x d most w hs hd hm)
  have HT := fun w' (g : Grew w w') => Lib.hid (r_there (h.grew g) _ (ang_err (nat x) d most))
  unfold Rdt at HT
  have G := Lib.hid gW
  clear h gW
  generalize angOf (nat x) d most = r at *
  unfold rv at HT ⊢
  go_enter Tryz.func112, Tryz.ntmps112
  go_upto_region 1 with fail
  go_wp2_with (first | (go_at_call 134; refine (HI _).out.mono ?_; rintro e w1 ⟨rfl, g1⟩; have e0 := (g1.cell (p := ⟨w.heap.size, 0, none⟩) ltW).trans d0; have e1 := (g1.cell (p := ⟨w.heap.size, 1, none⟩) ltW).trans d1; replace G := Lib.hid (G.out.trans g1); clear g1) | (go_at_call 111; refine (HT _ G.out).out.mono ?_; rintro e w2 ⟨rfl, hh, gg⟩))
  go_ret2
  exact ⟨rfl, hh, (Far.of_grew G.out).trans gg⟩
end
/- The program's sentences: a reader's places. -/
/-- The fields by their numbers. -/
def fb (bs : List ByteArray) (j : Nat) : List Nat := (bs.map nat).getD j []
theorem fb_at {bs : List ByteArray} {j : Nat} {x : ByteArray} (h : bs[j]? = some x) : fb bs j = nat x := by
  unfold fb
  rw [List.getD_eq_getElem?_getD, List.getElem?_map, h]
  rfl
abbrev FarX (E X : Nat) := Far (fun k => k = E ∨ k = X)
/-- What a call that writes a fix has done. -/
def Rdx (w : World) (S n c : Nat) (bs : List ByteArray) (E X : Nat) (s : Rs) (e : Ending) (w' : World) : Prop := e = .returned (.tuple #[]) ∧ Rd w' S n c bs E X s ∧ FarX E X w w'
theorem farE_x {E X : Nat} {w w' : World} (h : FarE E w w') : FarX E X w w' := h.mono (fun k _ hk => .inl hk)
theorem farX_put {E X : Nat} {w w' : World} (h : FarX E X w w') (k : Nat) (v : Value) : FarX E X w (w'.setCell ⟨X, k, none⟩ v) := Far.setCell h (p := ⟨X, k, none⟩) (.inr rfl) v
section
variable {w w' : World} {S n c E X : Nat} {bs : List ByteArray} {s : Rs}
theorem Rd.p_valid (h : Rd w S n c bs E X s) (v : Bool) : Rd (w.setCell ⟨X, 1, none⟩ (.bool v)) S n c bs E X ({ s.1 with valid := v }, s.2) := h.put 1 (.bool v) { s.1 with valid := v } rfl
theorem Rd.p_hasTime (h : Rd w S n c bs E X s) (v : Bool) : Rd (w.setCell ⟨X, 2, none⟩ (.bool v)) S n c bs E X ({ s.1 with hasTime := v }, s.2) := h.put 2 (.bool v) { s.1 with hasTime := v } rfl
theorem Rd.p_hasDate (h : Rd w S n c bs E X s) (v : Bool) : Rd (w.setCell ⟨X, 3, none⟩ (.bool v)) S n c bs E X ({ s.1 with hasDate := v }, s.2) := h.put 3 (.bool v) { s.1 with hasDate := v } rfl
theorem Rd.p_hasPos (h : Rd w S n c bs E X s) (v : Bool) : Rd (w.setCell ⟨X, 4, none⟩ (.bool v)) S n c bs E X ({ s.1 with hasPos := v }, s.2) := h.put 4 (.bool v) { s.1 with hasPos := v } rfl
theorem Rd.p_day (h : Rd w S n c bs E X s) (v : Int) : Rd (w.setCell ⟨X, 9, none⟩ (.int .i64 v)) S n c bs E X ({ s.1 with day := v }, s.2) := h.put 9 (.int .i64 v) { s.1 with day := v } rfl
theorem Rd.p_month (h : Rd w S n c bs E X s) (v : Int) : Rd (w.setCell ⟨X, 10, none⟩ (.int .i64 v)) S n c bs E X ({ s.1 with month := v }, s.2) := h.put 10 (.int .i64 v) { s.1 with month := v } rfl
theorem Rd.p_year (h : Rd w S n c bs E X s) (v : Int) : Rd (w.setCell ⟨X, 11, none⟩ (.int .i64 v)) S n c bs E X ({ s.1 with year := v }, s.2) := h.put 11 (.int .i64 v) { s.1 with year := v } rfl
theorem Rd.p_lat (h : Rd w S n c bs E X s) (v : Int) : Rd (w.setCell ⟨X, 12, none⟩ (.int .i64 v)) S n c bs E X ({ s.1 with lat := v }, s.2) := h.put 12 (.int .i64 v) { s.1 with lat := v } rfl
theorem Rd.p_lon (h : Rd w S n c bs E X s) (v : Int) : Rd (w.setCell ⟨X, 13, none⟩ (.int .i64 v)) S n c bs E X ({ s.1 with lon := v }, s.2) := h.put 13 (.int .i64 v) { s.1 with lon := v } rfl
theorem Rd.p_speed (h : Rd w S n c bs E X s) (v : Int) : Rd (w.setCell ⟨X, 14, none⟩ (.int .i64 v)) S n c bs E X ({ s.1 with speed := v }, s.2) := h.put 14 (.int .i64 v) { s.1 with speed := v } rfl
theorem Rd.p_course (h : Rd w S n c bs E X s) (v : Int) : Rd (w.setCell ⟨X, 15, none⟩ (.int .i64 v)) S n c bs E X ({ s.1 with course := v }, s.2) := h.put 15 (.int .i64 v) { s.1 with course := v } rfl
theorem Rd.p_quality (h : Rd w S n c bs E X s) (v : Int) : Rd (w.setCell ⟨X, 16, none⟩ (.int .i64 v)) S n c bs E X ({ s.1 with quality := v }, s.2) := h.put 16 (.int .i64 v) { s.1 with quality := v } rfl
theorem Rd.p_sats (h : Rd w S n c bs E X s) (v : Int) : Rd (w.setCell ⟨X, 17, none⟩ (.int .i64 v)) S n c bs E X ({ s.1 with sats := v }, s.2) := h.put 17 (.int .i64 v) { s.1 with sats := v } rfl
theorem Rd.p_mode (h : Rd w S n c bs E X s) (v : Int) : Rd (w.setCell ⟨X, 18, none⟩ (.int .i64 v)) S n c bs E X ({ s.1 with mode := v }, s.2) := h.put 18 (.int .i64 v) { s.1 with mode := v } rfl
theorem Rd.p_height (h : Rd w S n c bs E X s) (v : Int) : Rd (w.setCell ⟨X, 19, none⟩ (.int .i64 v)) S n c bs E X ({ s.1 with height := v }, s.2) := h.put 19 (.int .i64 v) { s.1 with height := v } rfl
theorem Rd.p_pdop (h : Rd w S n c bs E X s) (v : Int) : Rd (w.setCell ⟨X, 20, none⟩ (.int .i64 v)) S n c bs E X ({ s.1 with pdop := v }, s.2) := h.put 20 (.int .i64 v) { s.1 with pdop := v } rfl
theorem Rd.p_hdop (h : Rd w S n c bs E X s) (v : Int) : Rd (w.setCell ⟨X, 21, none⟩ (.int .i64 v)) S n c bs E X ({ s.1 with hdop := v }, s.2) := h.put 21 (.int .i64 v) { s.1 with hdop := v } rfl
theorem Rd.p_vdop (h : Rd w S n c bs E X s) (v : Int) : Rd (w.setCell ⟨X, 22, none⟩ (.int .i64 v)) S n c bs E X ({ s.1 with vdop := v }, s.2) := h.put 22 (.int .i64 v) { s.1 with vdop := v } rfl
theorem Rd.p_parts (h : Rd w S n c bs E X s) (v : Int) : Rd (w.setCell ⟨X, 23, none⟩ (.int .i64 v)) S n c bs E X ({ s.1 with parts := v }, s.2) := h.put 23 (.int .i64 v) { s.1 with parts := v } rfl
theorem Rd.p_part (h : Rd w S n c bs E X s) (v : Int) : Rd (w.setCell ⟨X, 24, none⟩ (.int .i64 v)) S n c bs E X ({ s.1 with part := v }, s.2) := h.put 24 (.int .i64 v) { s.1 with part := v } rfl
theorem Rd.p_time (h : Rd w S n c bs E X s) (a b d : Nat) (f : Bool) : Rd ((((w.setCell ⟨X, 5, none⟩ (.int .i64 (a : Nat))).setCell ⟨X, 6, none⟩ (.int .i64 (b : Nat))).setCell ⟨X, 7, none⟩ (.int .i64 (d : Nat))).setCell ⟨X, 8, none⟩ (.bool f)) S n c bs E X ({ s.1 with time := (a, b, d, f) }, s.2) :=
  (((h.put 5 (.int .i64 (a : Nat)) { s.1 with time := (a, s.1.time.2) } rfl).put 6 (.int .i64 (b : Nat)) { s.1 with time := (a, b, s.1.time.2.2) } rfl).put 7 (.int .i64 (d : Nat)) { s.1 with time := (a, b, d, s.1.time.2.2.2) } rfl).put 8 (.bool f) { s.1 with time := (a, b, d, f) } rfl
/-- The box of a reader stays. -/
theorem box_kept {B S n c E : Nat} {W : World} (hB : B < W.heap.size) (hE : B ≠ E) (d0 : W.cell? ⟨B, 0, none⟩ = some (.slice (some ⟨S, 0, none⟩) n c)) (d1 : W.cell? ⟨B, 1, none⟩ = some (.func (.func 21) #[] #[.pointer (some ⟨E, 0, none⟩)])) :
    ∀ w', FarE E W w' → w'.cell? ⟨B, 0, none⟩ = some (.slice (some ⟨S, 0, none⟩) n c) ∧ w'.cell? ⟨B, 1, none⟩ = some (.func (.func 21) #[] #[.pointer (some ⟨E, 0, none⟩)]) :=
  fun w' g => ⟨(g.cell (p := ⟨B, 0, none⟩) hB hE).trans d0, (g.cell (p := ⟨B, 1, none⟩) hB hE).trans d1⟩

theorem sPos_has {f : Nat → List Nat} {j : Nat} {a0 a1 a2 a3 : List Nat} (h0 : f j = a0) (h1 : f (j + 1) = a1) (h2 : f (j + 2) = a2) (h3 : f (j + 3) = a3) :
    sPos f j s = ({ s.1 with hasPos := (angOf a0 2 90).2 == 0 && (oneOf a1 [78, 83]).2 == 0 && (angOf a2 3 180).2 == 0 && (oneOf a3 [69, 87]).2 == 0, lat := if (angOf a0 2 90).2 == 0 && (oneOf a1 [78, 83]).2 == 0 && (angOf a2 3 180).2 == 0 && (oneOf a3 [69, 87]).2 == 0 then (angOf a0 2 90).1 * (1 - 2 * ((oneOf a1 [78, 83]).1 : Nat)) else s.1.lat, lon := if (angOf a0 2 90).2 == 0 && (oneOf a1 [78, 83]).2 == 0 && (angOf a2 3 180).2 == 0 && (oneOf a3 [69, 87]).2 == 0 then (angOf a2 3 180).1 * (1 - 2 * ((oneOf a3 [69, 87]).1 : Nat)) else s.1.lon },
     s.2 || badE (angOf a0 2 90).2 || badE (oneOf a1 [78, 83]).2 || badE (angOf a2 3 180).2 || badE (oneOf a3 [69, 87]).2) := by
  subst h0 h1 h2 h3
  rfl
theorem ang_in (S : List Nat) (hB : ∀ i, wd S i < 256) (d most : Nat) (hm : most ≤ 1000) : -2000000000000 ≤ (angOf S d most).1 ∧ (angOf S d most).1 ≤ 2000000000000 := by
  have h1 := int_in (S.take (min d S.length)) 0 most (by omega)
  have h2 := min_in (S.drop (min d S.length)) (fun i => by
    have := hB (min d S.length + i)
    unfold wd at this ⊢
    rw [List.getD_eq_getElem?_getD, List.getElem?_drop, ← List.getD_eq_getElem?_getD]; exact this)
  unfold angOf
  repeat' split
  all_goals simp only
  all_goals omega
theorem one_in (S O : List Nat) (h : (oneOf S O).2 = 0) : (oneOf S O).1 < O.length := by
  unfold oneOf at h ⊢
  split
  · rename_i h1; rw [if_pos h1] at h; exact absurd h h1
  · rename_i h1
    rw [if_neg h1] at h
    split
    · rename_i h2; exact h2.2
    · rename_i h2; rw [if_neg h2] at h; cases h

set_option maxHeartbeats 4000000 in
set_option maxRecDepth 100000 in
theorem r_position (h : Rd w S n c bs E X s) (j : Nat) (x0 x1 x2 x3 : ByteArray) (h0 : bs[j]? = some x0) (h1 : bs[j + 1]? = some x1) (h2 : bs[j + 2]? = some x2) (h3 : bs[j + 3]? = some x3) :
    Calls Tryz.prog 84 #[rv S n c E, .int .i64 (j : Nat), .pointer (some ⟨X, 0, none⟩)] w (Rdx w S n c bs E X (sPos (fb bs) j s)) := by
  have HS := Lib.hid (sPos_has (s := s) (fb_at h0) (fb_at h1) (fb_at h2) (fb_at h3))
  obtain ⟨W, hW, gW, ltW, d0, d1⟩ := boxR w S n c E
  have hj := (h.at_ h3).1
  have hmany := h.many
  have m1 : IntKind.i64.wrap ((j : Int) + 1) = ((j + 1 : Nat) : Int) := by rw [IntWalk.i64_in _ (by omega)]; simp
  have m2 : IntKind.i64.wrap ((j : Int) + 2) = ((j + 2 : Nat) : Int) := by rw [IntWalk.i64_in _ (by omega)]; simp
  have m3 : IntKind.i64.wrap ((j : Int) + 3) = ((j + 3 : Nat) : Int) := by rw [IntWalk.i64_in _ (by omega)]; simp
  have HA0 := fun w' s' (h' : Rd w' S n c bs E X s') => Lib.hid (r_angle h' j x0 h0 2 90 (by omega) (by omega))
  have HA1 := fun w' s' (h' : Rd w' S n c bs E X s') => Lib.hid (r_sign h' (j + 1) x1 h1 ⟨#[78, 83]⟩ (by decide))
  have HA2 := fun w' s' (h' : Rd w' S n c bs E X s') => Lib.hid (r_angle h' (j + 2) x2 h2 3 180 (by omega) (by omega))
  have HA3 := fun w' s' (h' : Rd w' S n c bs E X s') => Lib.hid (r_sign h' (j + 3) x3 h3 ⟨#[69, 87]⟩ (by decide))
  rw [show nat ⟨#[78, 83]⟩ = [78, 83] from rfl] at HA1
  rw [show nat ⟨#[69, 87]⟩ = [69, 87] from rfl] at HA3
  rw [show ((2 : Nat) : Int) = 2 from rfl, show ((90 : Nat) : Int) = 90 from rfl] at HA0
  rw [show ((3 : Nat) : Int) = 3 from rfl, show ((180 : Nat) : Int) = 180 from rfl] at HA2
  have i0 := ang_in (nat x0) (nat_lt x0) 2 90 (by omega)
  have i2 := ang_in (nat x2) (nat_lt x2) 3 180 (by omega)
  have i1 := one_in (nat x1) [78, 83]
  have i3 := one_in (nat x3) [69, 87]
  simp only [show ([78, 83] : List Nat).length = 2 from rfl, show ([69, 87] : List Nat).length = 2 from rfl] at i1 i3
  have hEl := h.hE
  have KB := box_kept ltW (show w.heap.size ≠ E by omega) d0 d1
  have HH := Lib.hid (h.grew gW)
  have GW := Lib.hid gW
  have G : Hid (FarE E W W) := Lib.hid (Far.refl _ _)
  have hXl := h.hX
  clear h gW h0 h1 h2 h3
  rw [show ((90 : Nat) : Int) = 90 from rfl] at i0
  rw [show ((180 : Nat) : Int) = 180 from rfl] at i2
  unfold Rdt at HA0 HA1 HA2 HA3
  generalize angOf (nat x0) 2 90 = r0 at *
  generalize angOf (nat x2) 3 180 = r2 at *
  generalize oneOf (nat x1) [78, 83] = r1 at *
  generalize oneOf (nat x3) [69, 87] = r3 at *
  obtain ⟨p0, q0⟩ := r0
  obtain ⟨p1, q1⟩ := r1
  obtain ⟨p2, q2⟩ := r2
  obtain ⟨p3, q3⟩ := r3
  simp only at HS HA0 HA1 HA2 HA3 i0 i1 i2 i3
  have c1 : (q1 == 0) = true → p1 < 2 := fun e => i1 (beq_iff_eq.1 e)
  have c3 : (q3 == 0) = true → p3 < 2 := fun e => i3 (beq_iff_eq.1 e)
  clear i1 i3
  generalize (q0 == 0) = b0 at *
  generalize (q1 == 0) = b1 at *
  generalize (q2 == 0) = b2 at *
  generalize (q3 == 0) = b3 at *
  generalize badE q0 = z0 at *
  generalize badE q1 = z1 at *
  generalize badE q2 = z2 at *
  generalize badE q3 = z3 at *
  have hc : (b0 && b1 && b2 && b3) = false ∧ (b0 = false ∨ (b0 = true ∧ b1 = false) ∨ (b0 = true ∧ b1 = true ∧ b2 = false) ∨ (b0 = true ∧ b1 = true ∧ b2 = true ∧ b3 = false)) ∨ (b0 = true ∧ b1 = true ∧ b2 = true ∧ b3 = true) := by
    cases b0 <;> cases b1 <;> cases b2 <;> cases b3 <;> decide
  rcases hc with ⟨ha, hc⟩ | ⟨rfl, rfl, rfl, rfl⟩
  · rw [ha] at HS
    clear i0 i2 c1 c3 ha
    rcases hc with rfl | ⟨rfl, rfl⟩ | ⟨rfl, rfl, rfl⟩ | ⟨rfl, rfl, rfl, rfl⟩
    all_goals
      unfold rv at HA0 HA1 HA2 HA3 ⊢
      go_enter Tryz.func84, Tryz.ntmps84
      go_upto_region 1 with fail
      go_upto_region 2 with (go_at_call 112; refine (HA0 _ _ HH.out).out.mono ?_; rintro e w1 ⟨rfl, hh, gg⟩; replace HH := Lib.hid hh; replace G := Lib.hid (G.out.trans gg); clear d0 d1 hh gg HA0; obtain ⟨d0, d1⟩ := KB _ G.out)
      go_upto_region 3 with (go_at_call 113; refine (HA1 _ _ HH.out).out.mono ?_; rintro e w2 ⟨rfl, hh, gg⟩; replace HH := Lib.hid hh; replace G := Lib.hid (G.out.trans gg); clear d0 d1 hh gg HA1; obtain ⟨d0, d1⟩ := KB _ G.out)
      go_upto_region 4 with (go_at_call 112; refine (HA2 _ _ HH.out).out.mono ?_; rintro e w3 ⟨rfl, hh, gg⟩; replace HH := Lib.hid hh; replace G := Lib.hid (G.out.trans gg); clear d0 d1 hh gg HA2; obtain ⟨d0, d1⟩ := KB _ G.out)
      go_upto_region 5 with (go_at_call 113; refine (HA3 _ _ HH.out).out.mono ?_; rintro e w4 ⟨rfl, hh, gg⟩; replace HH := Lib.hid hh; replace G := Lib.hid (G.out.trans gg); clear d0 d1 hh gg HA3; obtain ⟨d0, d1⟩ := KB _ G.out)
      have k4 := HH.out.cellX 4 _ rfl
      have f4 := HH.out.frozenX 4
      go_wp2_with fail
      go_returns
      exact ⟨rfl, by rw [HS.out]; exact HH.out.p_hasPos false, farX_put ((Far.of_grew GW.out).trans (farE_x G.out)) 4 _⟩
  · have n0 : IntKind.i64.wrap (p0 * (1 - 2 * (p1 : Int))) = p0 * (1 - 2 * (p1 : Int)) := by
      have := c1 rfl
      rcases (show p1 = 0 ∨ p1 = 1 by omega) with rfl | rfl <;> exact IntWalk.i64_in _ (by omega)
    have n2 : IntKind.i64.wrap (p2 * (1 - 2 * (p3 : Int))) = p2 * (1 - 2 * (p3 : Int)) := by
      have := c3 rfl
      rcases (show p3 = 0 ∨ p3 = 1 by omega) with rfl | rfl <;> exact IntWalk.i64_in _ (by omega)
    rw [show (true && true && true && true) = true from rfl, if_pos rfl, if_pos rfl] at HS
    clear i0 i2 c1 c3
    generalize 1 - 2 * (p1 : Int) = t1 at *
    generalize 1 - 2 * (p3 : Int) = t3 at *
    unfold rv at HA0 HA1 HA2 HA3 ⊢
    go_enter Tryz.func84, Tryz.ntmps84
    go_upto_region 1 with fail
    go_upto_region 2 with (go_at_call 112; refine (HA0 _ _ HH.out).out.mono ?_; rintro e w1 ⟨rfl, hh, gg⟩; replace HH := Lib.hid hh; replace G := Lib.hid (G.out.trans gg); clear d0 d1 hh gg HA0; obtain ⟨d0, d1⟩ := KB _ G.out)
    go_upto_region 3 with (go_at_call 113; refine (HA1 _ _ HH.out).out.mono ?_; rintro e w2 ⟨rfl, hh, gg⟩; replace HH := Lib.hid hh; replace G := Lib.hid (G.out.trans gg); clear d0 d1 hh gg HA1; obtain ⟨d0, d1⟩ := KB _ G.out)
    go_upto_region 4 with (go_at_call 112; refine (HA2 _ _ HH.out).out.mono ?_; rintro e w3 ⟨rfl, hh, gg⟩; replace HH := Lib.hid hh; replace G := Lib.hid (G.out.trans gg); clear d0 d1 hh gg HA2; obtain ⟨d0, d1⟩ := KB _ G.out)
    go_upto_region 5 with (go_at_call 113; refine (HA3 _ _ HH.out).out.mono ?_; rintro e w4 ⟨rfl, hh, gg⟩; replace HH := Lib.hid hh; replace G := Lib.hid (G.out.trans gg); clear d0 d1 hh gg HA3; obtain ⟨d0, d1⟩ := KB _ G.out)
    have k4 := HH.out.cellX 4 _ rfl
    have k12 := HH.out.cellX 12 _ rfl
    have k13 := HH.out.cellX 13 _ rfl
    have f4 := HH.out.frozenX 4
    have f12 := HH.out.frozenX 12
    have f13 := HH.out.frozenX 13
    go_wp2_with fail
    go_returns
    exact ⟨rfl, by rw [HS.out]; exact ((HH.out.p_hasPos true).p_lat (p0 * t1)).p_lon (p2 * t3), farX_put (farX_put (farX_put ((Far.of_grew GW.out).trans (farE_x G.out)) 4 _) 12 _) 13 _⟩
end
/- The program's sentences: what a reader's calls tell, by the fields' numbers. -/
section
variable {w w' : World} {S n c E X : Nat} {bs : List ByteArray} {s : Rs}
theorem Rd.ex (h : Rd w S n c bs E X s) (j : Nat) (hj : j < n) : ∃ x, bs[j]? = some x := ⟨_, List.getElem?_eq_getElem (by rw [h.len]; exact hj)⟩
theorem q_clock (h : Rd w S n c bs E X s) (j : Nat) (hj : j < n) (r : (Nat × Nat × Nat × Bool) × Nat) (hr : clockOf (fb bs j) = r) : Calls Tryz.prog 82 #[rv S n c E, .int .i64 (j : Nat)] w
      (Rdt w S n c bs E X (s.1, s.2 || badE r.2) (.tuple #[.agg #[.int .i64 (r.1.1 : Nat), .int .i64 (r.1.2.1 : Nat), .int .i64 (r.1.2.2.1 : Nat), .bool r.1.2.2.2], .bool (r.2 == 0)])) := by
  obtain ⟨x, hx⟩ := h.ex j hj
  rw [fb_at hx] at hr
  subst hr
  exact r_clock h j x hx
theorem q_date (h : Rd w S n c bs E X s) (j : Nat) (hj : j < n) (r : (Nat × Nat × Nat) × Nat) (hr : dateOf (fb bs j) = r) : Calls Tryz.prog 86 #[rv S n c E, .int .i64 (j : Nat)] w
      (Rdt w S n c bs E X (s.1, s.2 || badE r.2) (.tuple #[.int .i64 (r.1.1 : Nat), .int .i64 (r.1.2.1 : Nat), .int .i64 (r.1.2.2 : Nat), .bool (r.2 == 0)])) := by
  obtain ⟨x, hx⟩ := h.ex j hj
  rw [fb_at hx] at hr
  subst hr
  exact r_date h j x hx
theorem q_active (h : Rd w S n c bs E X s) (j : Nat) (hj : j < n) (r : Nat × Nat) (hr : oneOf (fb bs j) [65, 86] = r) : Calls Tryz.prog 83 #[rv S n c E, .int .i64 (j : Nat)] w
      (Rdt w S n c bs E X (s.1, s.2 || badE r.2) (.bool (r.2 == 0 && r.1 == 0))) := by
  obtain ⟨x, hx⟩ := h.ex j hj
  rw [fb_at hx] at hr
  subst hr
  exact r_active h j x hx
theorem q_number (h : Rd w S n c bs E X s) (j : Nat) (hj : j < n) (l m : Int) (h1 : -9223372036854775808 ≤ l ∧ l ≤ 9223372036854775807) (h2 : -9223372036854775808 ≤ m ∧ m ≤ 9223372036854775807) (r : Int × Nat) (hr : intAns (fb bs j) l m = r) :
    Calls Tryz.prog 87 #[rv S n c E, .int .i64 (j : Nat), .int .i64 l, .int .i64 m] w
      (Rdt w S n c bs E X (s.1, s.2 || badE r.2) (.tuple #[.int .i64 r.1, .bool (r.2 == 0)])) := by
  obtain ⟨x, hx⟩ := h.ex j hj
  rw [fb_at hx] at hr
  subst hr
  exact r_number h j x hx l m h1 h2
theorem q_letter (h : Rd w S n c bs E X s) (j : Nat) (hj : j < n) (o : ByteArray) (ho : o.size ≤ 1000) (r : Nat × Nat) (hr : oneOf (fb bs j) (nat o) = r) :
    Calls Tryz.prog 89 #[rv S n c E, .int .i64 (j : Nat), .string o] w
      (Rdt w S n c bs E X (s.1, s.2 || badE r.2) (.tuple #[.int .i64 (r.1 : Nat), .bool (r.2 == 0)])) := by
  obtain ⟨x, hx⟩ := h.ex j hj
  rw [fb_at hx] at hr
  subst hr
  exact r_letter h j x hx o ho
theorem q_fixed (h : Rd w S n c bs E X s) (j : Nat) (hj : j < n) (p : Int) (hp : -9223372036854775808 ≤ p ∧ p ≤ 9223372036854775807) (r : Int × Nat) (hr : fixedOf (fb bs j) p = r) :
    Calls Tryz.prog 88 #[rv S n c E, .int .i64 (j : Nat), .int .i64 p] w
      (Rdt w S n c bs E X (s.1, s.2 || badE r.2) (.int .i64 r.1)) := by
  obtain ⟨x, hx⟩ := h.ex j hj
  rw [fb_at hx] at hr
  subst hr
  exact r_fixed h j x hx p hp
theorem q_unsigned (h : Rd w S n c bs E X s) (j : Nat) (hj : j < n) (p : Int) (hp : -9223372036854775808 ≤ p ∧ p ≤ 9223372036854775807) (u : Int) (hu : uOf (fb bs) j p = u) (b : Bool) (hb : unsBad (fb bs j) p = b) :
    Calls Tryz.prog 85 #[rv S n c E, .int .i64 (j : Nat), .int .i64 p] w
      (Rdt w S n c bs E X (s.1, s.2 || b) (.int .i64 u)) := by
  obtain ⟨x, hx⟩ := h.ex j hj
  unfold uOf at hu
  rw [fb_at hx] at hu hb
  subst hu hb
  exact r_unsigned h j x hx p hp
theorem q_position (h : Rd w S n c bs E X s) (j : Nat) (hj : j + 3 < n) :
    Calls Tryz.prog 84 #[rv S n c E, .int .i64 (j : Nat), .pointer (some ⟨X, 0, none⟩)] w (Rdx w S n c bs E X (sPos (fb bs) j s)) := by
  obtain ⟨x0, h0⟩ := h.ex j (by omega)
  obtain ⟨x1, h1⟩ := h.ex (j + 1) (by omega)
  obtain ⟨x2, h2⟩ := h.ex (j + 2) (by omega)
  obtain ⟨x3, h3⟩ := h.ex (j + 3) (by omega)
  exact r_position h j x0 x1 x2 x3 h0 h1 h2 h3

theorem Rd.as {t u : Rs} (e : t = u) (h : Rd w S n c bs E X t) : Rd w S n c bs E X u := e ▸ h
theorem sTime_of {f : Nat → List Nat} {j : Nat} {r : (Nat × Nat × Nat × Bool) × Nat} (hr : clockOf (f j) = r) (s : Rs) : sTime f j s = ({ s.1 with time := r.1, hasTime := r.2 == 0 }, s.2 || badE r.2) := by
  subst hr; rfl
theorem sDate_of {f : Nat → List Nat} {j : Nat} {r : (Nat × Nat × Nat) × Nat} (hr : dateOf (f j) = r) (s : Rs) : sDate f j s = ({ s.1 with day := (r.1.1 : Nat), month := (r.1.2.1 : Nat), year := (r.1.2.2 : Nat), hasDate := r.2 == 0 }, s.2 || badE r.2) := by
  subst hr; rfl
theorem sActive_of {f : Nat → List Nat} {j : Nat} {r : Nat × Nat} (hr : oneOf (f j) [65, 86] = r) (s : Rs) : sActive f j s = ({ s.1 with valid := r.2 == 0 && r.1 == 0 }, s.2 || badE r.2) := by
  subst hr; rfl
theorem Rd.time {f : Nat → List Nat} {j : Nat} {r : (Nat × Nat × Nat × Bool) × Nat} (h : Rd w S n c bs E X (s.1, s.2 || badE r.2)) (hr : clockOf (f j) = r) :
    Rd (((((w.setCell ⟨X, 5, none⟩ (.int .i64 (r.1.1 : Nat))).setCell ⟨X, 6, none⟩ (.int .i64 (r.1.2.1 : Nat))).setCell ⟨X, 7, none⟩ (.int .i64 (r.1.2.2.1 : Nat))).setCell ⟨X, 8, none⟩ (.bool r.1.2.2.2)).setCell ⟨X, 2, none⟩ (.bool (r.2 == 0))) S n c bs E X (sTime f j s) := by
  rw [sTime_of hr]
  exact (h.p_time r.1.1 r.1.2.1 r.1.2.2.1 r.1.2.2.2).p_hasTime (r.2 == 0)
theorem farX_time {W : World} (h : FarX E X W w) (a b d g t : Value) : FarX E X W (((((w.setCell ⟨X, 5, none⟩ a).setCell ⟨X, 6, none⟩ b).setCell ⟨X, 7, none⟩ d).setCell ⟨X, 8, none⟩ g).setCell ⟨X, 2, none⟩ t) :=
  farX_put (farX_put (farX_put (farX_put (farX_put h 5 a) 6 b) 7 d) 8 g) 2 t
theorem box_keptX {B S n c E X : Nat} {W : World} (hB : B < W.heap.size) (hE : B ≠ E) (hX : B ≠ X) (d0 : W.cell? ⟨B, 0, none⟩ = some (.slice (some ⟨S, 0, none⟩) n c)) (d1 : W.cell? ⟨B, 1, none⟩ = some (.func (.func 21) #[] #[.pointer (some ⟨E, 0, none⟩)])) :
    ∀ w', FarX E X W w' → w'.cell? ⟨B, 0, none⟩ = some (.slice (some ⟨S, 0, none⟩) n c) ∧ w'.cell? ⟨B, 1, none⟩ = some (.func (.func 21) #[] #[.pointer (some ⟨E, 0, none⟩)]) :=
  fun w' g => ⟨(g.cell (p := ⟨B, 0, none⟩) hB (fun e => e.elim hE hX)).trans d0, (g.cell (p := ⟨B, 1, none⟩) hB (fun e => e.elim hE hX)).trans d1⟩
theorem int_in2 (S : List Nat) (l m : Int) (h : 0 ≤ l) (hm : 0 ≤ m) : 0 ≤ (intAns S l m).1 ∧ (intAns S l m).1 ≤ m := by
  unfold intAns
  repeat' split
  all_goals simp only
  all_goals omega
theorem sats_in (f : Nat → List Nat) (s : Rs) (h : s.1.sats = 0) : ∀ k : Nat, 0 ≤ (satsTo f k s).1.sats ∧ (satsTo f k s).1.sats ≤ k := by
  intro k
  induction k with
  | zero => rw [satsTo, h]; simp
  | succ k ih =>
    rw [satsTo]
    simp only
    split <;> omega
theorem zda_len (s : Rs) (n : Nat) : (s.1, s.2 || !((n : Int) == 4)) = (s.1, s.2 || (n != 4)) := by
  have : ((n : Int) == 4) = (n == 4) := by rw [Bool.eq_iff_iff, beq_iff_eq, beq_iff_eq]; omega
  rw [this]; rfl
theorem Rd.drew (h : Rd w S n c bs E X s) : FarE E w w.drew := Far.of_grew (Grew.refl w).drew
/-- A reader's box and one of its fields stay. -/
theorem box_field {B S n c E X j : Nat} {W w : World} {x : ByteArray} {bs : List ByteArray} {s : Rs} (hB : B < W.heap.size) (hE : B ≠ E) (h : Rd w S n c bs E X s) (g0 : FarX E X W w) (d0 : w.cell? ⟨B, 0, none⟩ = some (.slice (some ⟨S, 0, none⟩) n c)) (d1 : w.cell? ⟨B, 1, none⟩ = some (.func (.func 21) #[] #[.pointer (some ⟨E, 0, none⟩)])) (c0 : w.cell? ⟨S, j, none⟩ = some (.string x)) :
    ∀ w', FarE E w w' → w'.cell? ⟨B, 0, none⟩ = some (.slice (some ⟨S, 0, none⟩) n c) ∧ w'.cell? ⟨B, 1, none⟩ = some (.func (.func 21) #[] #[.pointer (some ⟨E, 0, none⟩)]) ∧ w'.cell? ⟨S, j, none⟩ = some (.string x) :=
  fun w' g => ⟨(g.cell (p := ⟨B, 0, none⟩) (Nat.lt_of_lt_of_le hB g0.size) hE).trans d0, (g.cell (p := ⟨B, 1, none⟩) (Nat.lt_of_lt_of_le hB g0.size) hE).trans d1, (g.cell (p := ⟨S, j, none⟩) h.hS h.SE).trans c0⟩
end
end Go.Proofs.YtlcmjedbdopglaaGreatDoor

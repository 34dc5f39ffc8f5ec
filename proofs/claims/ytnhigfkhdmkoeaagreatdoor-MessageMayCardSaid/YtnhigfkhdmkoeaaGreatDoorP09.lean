/-
  The program's fields: two digits, and two, and two; dates; one of some bytes.
  The program's fields: dates; one of some bytes.
  The program's fields: times of day.
  The program's fields: numbers with places, as plain lists.
  The program's fields: numbers with places.
  The program's fields: numbers with places, the walk.
  Sentences as plain lists of bytes: what the fields of each kind tell.
  The program's sentences: what a reader holds in memory, and what it gathers.
  The program's sentences: a reader's fields: times, dates, numbers, letters.
  The program's sentences: a reader's times, numbers without a sign, angles.
  The program's sentences: a reader's times.
  Messages as plain parts: what a frame tells. Nothing of the program.
-/
import Derived.Test.YtnhigfkhdmkoeaaGreatDoorP08
import Derived.Test.YtnhigfkhdmkoeaaGreatDoorP07
import Derived.Deep.RegionHeld3
import Derived.Lib.Repeat
import Derived.Test.YtnhigfkhdmkoeaaGreatDoorP02
import Derived.KernelRfl
import Derived.Handy
import Derived.Test.YtnhigfkhdmkoeaaGreatDoorP05

namespace Go.Proofs.YtnhigfkhdmkoeaaGreatDoor
open Go.RowKit
set_option linter.unusedVariables false

/- The program's fields: two digits, and two, and two; dates; one of some bytes. -/
theorem num_two (s : ByteArray) (k : Nat) (h : k + 2 ≤ s.size) : numOf (nat (s.extract k (k + 2))) 0 (s.extract k (k + 2)).size = twoOf (nat s) k := by
  have e : (s.extract k (k + 2)).size = 2 := by rw [size_extract]; omega
  have w0 : wd (nat (s.extract k (k + 2))) 0 = wd (nat s) k := by
    rw [nat_extract]; unfold wd
    simp [List.getD_eq_getElem?_getD, List.getElem?_drop]
  have w1 : wd (nat (s.extract k (k + 2))) 1 = wd (nat s) (k + 1) := by
    rw [nat_extract]; unfold wd
    simp [List.getD_eq_getElem?_getD, List.getElem?_drop]
  rw [e]
  show (0 * 10 + (wd _ (0 + 0) - 48)) * 10 + (wd _ (0 + 1) - 48) = _
  rw [show 0 + 0 = 0 from rfl, show 0 + 1 = 1 from rfl, w0, w1]
  unfold twoOf
  omega
theorem all_part {S : List Nat} {p : Nat → Bool} (h : S.all p = true) (a b : Nat) : ((S.take b).drop a).all p = true := by
  rw [List.all_eq_true] at h ⊢
  exact fun x hx => h x (List.mem_of_mem_take (List.mem_of_mem_drop hx))
set_option maxHeartbeats 1000000 in
theorem fld_two (s : ByteArray) (k : Nat) (a : Addr) (w : World) (hs : s.size ≤ 2000) (hk : k + 2 ≤ s.size) (hp : (nat s).all isDig = true) (ha : w.cell? a = some (.string s)) :
    Calls Tryz.prog 155 #[.int .i64 (k : Nat), .pointer (some a)] w fun e w' => e = .returned (.int .i64 (twoOf (nat s) k : Nat)) ∧ Grew w w' := by
  have HN := fun w => fld_num_dec (s.extract k (k + 2)) w (by rw [size_extract]; omega) (by rw [nat_extract]; exact all_part hp _ _)
  rw [num_two s k hk] at HN
  have hd : ∀ i, i < s.size → isDig (wd (nat s) i) = true := fun i hi => all_iff.1 hp i (by rw [nat_length]; exact hi)
  have hb := two_lt (nat s) k (hd k (by omega)) (hd (k + 1) (by omega))
  unfold told at HN
  generalize twoOf (nat s) k = n at *
  rw [if_pos (by omega), decide_eq_true (by omega)] at HN
  replace HN := fun w => Lib.hid (HN w)
  have p1 : (0 : Int) ≤ k := by omega
  have p2 : (k : Int) ≤ s.size := by omega
  have p3 : IntKind.i64.wrap ((k : Int) + 2) = ((k + 2 : Nat) : Int) := by rw [IntWalk.i64_in _ (by omega)]; simp
  have p4 : ((k + 2 : Nat) : Int) ≤ s.size := by omega
  have p5 : (k : Int) ≤ ((k + 2 : Nat) : Int) := by omega
  have p6 : (0 : Int) ≤ ((k + 2 : Nat) : Int) := by omega
  have hx : Hid (∀ w', Grew w w' → w'.cell? a = some (.string s)) := fun w' g => kept_cell ha g
  obtain ⟨m, hm⟩ : ∃ m, k + 2 = m := ⟨_, rfl⟩
  rw [hm] at HN p3 p4 p5 p6
  clear hd hm hp hk
  go_enter Tryz.func155, Tryz.ntmps155
  have ha2 := ha
  go_wp2_with (first | (go_at_call 148; refine (HN _).out.mono ?_; rintro e w1 ⟨rfl, rfl⟩))
  go_ret
  exact ⟨rfl, Grew.refl _⟩

/-- What six digits are, by two. -/
def sixOf (s : ByteArray) : Value := if s.size = 6 ∧ (nat s).all isDig = true then .tuple #[.int .i64 (twoOf (nat s) 0 : Nat), .int .i64 (twoOf (nat s) 2 : Nat), .int .i64 (twoOf (nat s) 4 : Nat), .bool true] else .tuple #[.int .i64 0, .int .i64 0, .int .i64 0, .bool false]
set_option maxHeartbeats 1000000 in
theorem fld_six (s : ByteArray) (w : World) (hs : s.size ≤ 2000) :
    Calls Tryz.prog 144 #[.string s] w fun e w' => e = .returned (sixOf s) ∧ Grew w w' := by
  have HO := fun w => Lib.hid (fld_allOf ⟨#[48, 49, 50, 51, 52, 53, 54, 55, 56, 57]⟩ w)
  have HA := fun a w h => Lib.hid (fld_digs s a w hs h)
  have KS : ∀ w', Grew (w.alloc (.cells #[.string s] 9)) w' → w'.cell? ⟨w.heap.size, 0, none⟩ = some (.string s) := fun w' g => kept_cell (by simp [go_sem]) g
  have G : Grew (w.alloc (.cells #[.string s] 9)) (w.alloc (.cells #[.string s] 9)).drew := (Grew.refl _).drew
  by_cases h6 : s.size = 6
  · have c1 : ((s.size : Int) != 6) = false := by rw [h6]; rfl
    cases hd : (nat s).all isDig
    · have HI : Hid (sixOf s = .tuple #[.int .i64 0, .int .i64 0, .int .i64 0, .bool false]) := by show _ = _; unfold sixOf; rw [if_neg (by rw [hd]; simp)]
      rw [hd] at HA
      clear hd h6
      go_enter Tryz.func144, Tryz.ntmps144
      go_wp2_with fail
      go_region_held3 (fun w' => w'.cell? ⟨w.heap.size, 0, none⟩ = some (.string s)) (exact KS _ G) (first | (go_at_call 145; refine (HO _).out.mono ?_; rintro e w1 ⟨q, rfl, hq, g1⟩; replace G := G.trans g1; clear g1) | (go_at_call 156; (with_reducible refine (HA q _ hq).out.mono ?_); rintro e w2 ⟨rfl, g1⟩; replace G := G.trans g1; clear g1))
      go_wp2_with fail
      refine bodyPost_ret (by simp [results, Tryz.results144, go_sem]; try rfl) rfl ?_
      exact ⟨by rw [HI.out], ((Grew.refl w).alloc _).trans G⟩
    · have HI : Hid (sixOf s = .tuple #[.int .i64 (twoOf (nat s) 0 : Nat), .int .i64 (twoOf (nat s) 2 : Nat), .int .i64 (twoOf (nat s) 4 : Nat), .bool true]) := by show _ = _; unfold sixOf; rw [if_pos ⟨h6, hd⟩]
      have HT0 : ∀ w1 : World, w1.cell? ⟨w.heap.size, 0, none⟩ = some (.string s) → Hid (Calls Tryz.prog 155 #[.int .i64 0, .pointer (some ⟨w.heap.size, 0, none⟩)] w1 fun e w' => e = .returned (.int .i64 (twoOf (nat s) 0 : Nat)) ∧ Grew w1 w') := fun w1 h => Lib.hid (fld_two s 0 _ w1 hs (by omega) hd h)
      have HT2 : ∀ w1 : World, w1.cell? ⟨w.heap.size, 0, none⟩ = some (.string s) → Hid (Calls Tryz.prog 155 #[.int .i64 2, .pointer (some ⟨w.heap.size, 0, none⟩)] w1 fun e w' => e = .returned (.int .i64 (twoOf (nat s) 2 : Nat)) ∧ Grew w1 w') := fun w1 h => Lib.hid (fld_two s 2 _ w1 hs (by omega) hd h)
      have HT4 : ∀ w1 : World, w1.cell? ⟨w.heap.size, 0, none⟩ = some (.string s) → Hid (Calls Tryz.prog 155 #[.int .i64 4, .pointer (some ⟨w.heap.size, 0, none⟩)] w1 fun e w' => e = .returned (.int .i64 (twoOf (nat s) 4 : Nat)) ∧ Grew w1 w') := fun w1 h => Lib.hid (fld_two s 4 _ w1 hs (by omega) hd h)
      rw [hd] at HA
      generalize twoOf (nat s) 0 = T0 at *
      generalize twoOf (nat s) 2 = T2 at *
      generalize twoOf (nat s) 4 = T4 at *
      clear hd h6
      go_enter Tryz.func144, Tryz.ntmps144
      go_wp2_with fail
      go_region_held3 (fun w' => w'.cell? ⟨w.heap.size, 0, none⟩ = some (.string s)) (exact KS _ G) (first | (go_at_call 145; refine (HO _).out.mono ?_; rintro e w1 ⟨q, rfl, hq, g1⟩; replace G := G.trans g1; clear g1) | (go_at_call 156; (with_reducible refine (HA q _ hq).out.mono ?_); rintro e w2 ⟨rfl, g1⟩; replace G := G.trans g1; clear g1))
      go_wp2_with (first | (go_at_call 155; (first | (with_reducible refine (HT0 _ (KS _ G)).out.mono ?_) | (with_reducible refine (HT2 _ (KS _ G)).out.mono ?_) | (with_reducible refine (HT4 _ (KS _ G)).out.mono ?_)); rintro e w3 ⟨rfl, g1⟩; replace G := G.trans g1; clear g1))
      refine bodyPost_ret (by simp [results, Tryz.results144, go_sem]; try rfl) rfl ?_
      exact ⟨by rw [HI.out], ((Grew.refl w).alloc _).trans G⟩
  · have HI : Hid (sixOf s = .tuple #[.int .i64 0, .int .i64 0, .int .i64 0, .bool false]) := by show _ = _; unfold sixOf; rw [if_neg (fun h => h6 h.1)]
    have c1 : ((s.size : Int) != 6) = true := by simp; omega
    have c2 : ((s.size : Int) == 6) = false := by simp; omega
    have c3 : ¬ (s.size : Int) = 6 := by omega
    clear h6
    go_enter Tryz.func144, Tryz.ntmps144
    go_wp2_with fail
    have hc := KS _ (Grew.refl _)
    go_quiet (fail)
    go_wp2_with fail
    refine bodyPost_ret (by simp [results, Tryz.results144, go_sem]; try rfl) rfl ?_
    exact ⟨by rw [HI.out], ((Grew.refl w).alloc _).drewN _⟩
/- The program's fields: dates; one of some bytes. -/
set_option maxHeartbeats 1000000 in
theorem fld_Date (s : ByteArray) (w : World) (hs : s.size ≤ 2000) :
    Calls Tryz.prog 130 #[.string s] w fun e w' => e = .returned (dateVal (dateOf (nat s))) ∧ Grew w w' := by
  have hl := nat_length s
  have HR := fun w => Lib.hid (fld_read s w hs)
  have HS := fun w => fld_six s w hs
  by_cases hr : readE (nat s) = 0
  · rw [hr] at HR
    have hw := fun h : s.size = 6 => (show digs (nat s) 0 6 = (nat s).all isDig by have := digs_whole (nat s) (by omega); rwa [hl, h] at this)
    by_cases h6 : s.size = 6 ∧ (nat s).all isDig = true
    · have hI : Hid (dateOf (nat s) = if twoOf (nat s) 0 < 1 ∨ 31 < twoOf (nat s) 0 ∨ twoOf (nat s) 2 < 1 ∨ 12 < twoOf (nat s) 2 then ((0, 0, 0), 5) else ((twoOf (nat s) 0, twoOf (nat s) 2, twoOf (nat s) 4), 0)) := by
        show _ = _
        unfold dateOf
        rw [if_neg (by omega), hl, hw h6.1, h6.2]
        by_cases hc : twoOf (nat s) 0 < 1 ∨ 31 < twoOf (nat s) 0 ∨ twoOf (nat s) 2 < 1 ∨ 12 < twoOf (nat s) 2
        · rw [if_pos hc, if_pos (.inr (.inr hc))]
        · rw [if_neg hc, if_neg (fun h => by rcases h with h | h | h; exact h h6.1; cases h; exact hc h)]
      have e6 : sixOf s = .tuple #[.int .i64 (twoOf (nat s) 0 : Nat), .int .i64 (twoOf (nat s) 2 : Nat), .int .i64 (twoOf (nat s) 4 : Nat), .bool true] := by unfold sixOf; rw [if_pos h6]
      rw [e6] at HS
      replace HS := fun w => Lib.hid (HS w)
      generalize twoOf (nat s) 0 = T0 at *
      generalize twoOf (nat s) 2 = T2 at *
      generalize twoOf (nat s) 4 = T4 at *
      clear e6 hw hl hr h6
      by_cases hbad : T0 < 1 ∨ 31 < T0 ∨ T2 < 1 ∨ 12 < T2
      · have HI : Hid (dateOf (nat s) = ((0, 0, 0), 5)) := by show _ = _; rw [hI.out, if_pos hbad]
        have hcase : T0 < 1 ∨ (¬ T0 < 1 ∧ 31 < T0) ∨ (¬ T0 < 1 ∧ ¬ 31 < T0 ∧ T2 < 1) ∨ (¬ T0 < 1 ∧ ¬ 31 < T0 ∧ ¬ T2 < 1 ∧ 12 < T2) := by omega
        clear hI hbad
        rcases hcase with h | ⟨h, h1⟩ | ⟨h, h1, h2⟩ | ⟨h, h1, h2, h3⟩
        all_goals
          go_enter Tryz.func130, Tryz.ntmps130
          go_wp2_with (first | (go_at_call 142; refine (HR _).out.mono ?_; rintro e w1 ⟨rfl, rfl⟩) | (go_at_call 144; refine (HS _).out.mono ?_; rintro e w1 ⟨rfl, g1⟩))
          refine bodyPost_ret (by simp [results, Tryz.results130, go_sem]; try rfl) rfl ?_
          exact ⟨by rw [HI.out]; rfl, g1⟩
      · have HI : Hid (dateOf (nat s) = ((T0, T2, T4), 0)) := by show _ = _; rw [hI.out, if_neg hbad]
        have z0 : ¬ (T0 : Int) < 1 := by omega
        have z1 : ¬ (31 : Int) < T0 := by omega
        have z2 : ¬ (T2 : Int) < 1 := by omega
        have z3 : ¬ (12 : Int) < T2 := by omega
        clear hI hbad
        go_enter Tryz.func130, Tryz.ntmps130
        go_wp2_with (first | (go_at_call 142; refine (HR _).out.mono ?_; rintro e w1 ⟨rfl, rfl⟩) | (go_at_call 144; refine (HS _).out.mono ?_; rintro e w1 ⟨rfl, g1⟩))
        refine bodyPost_ret (by simp [results, Tryz.results130, go_sem]; try rfl) rfl ?_
        exact ⟨by rw [HI.out]; rfl, g1⟩
    · have HI : Hid (dateOf (nat s) = ((0, 0, 0), 5)) := by
        show _ = _
        unfold dateOf
        rw [if_neg (by omega), hl]
        by_cases h : s.size = 6
        · rw [hw h, if_pos (.inr (.inl (by cases hq : (nat s).all isDig; rfl; exact absurd ⟨h, hq⟩ h6)))]
        · rw [if_pos (.inl h)]
      have e6 : sixOf s = .tuple #[.int .i64 0, .int .i64 0, .int .i64 0, .bool false] := by unfold sixOf; rw [if_neg h6]
      rw [e6] at HS
      replace HS := fun w => Lib.hid (HS w)
      clear e6 hw hl hr h6
      go_enter Tryz.func130, Tryz.ntmps130
      go_wp2_with (first | (go_at_call 142; refine (HR _).out.mono ?_; rintro e w1 ⟨rfl, rfl⟩) | (go_at_call 144; refine (HS _).out.mono ?_; rintro e w1 ⟨rfl, g1⟩))
      refine bodyPost_ret (by simp [results, Tryz.results130, go_sem]; try rfl) rfl ?_
      exact ⟨by rw [HI.out]; rfl, g1⟩
  · have hI : Hid (dateOf (nat s) = ((0, 0, 0), readE (nat s))) := by show _ = _; unfold dateOf; rw [if_pos hr]
    have hr9 := readE_le (nat s)
    have r0 : ¬ (readE (nat s) : Int) = 0 := by omega
    have r1 : ((readE (nat s) : Int) == 0) = false := by simpa using r0
    clear hl hr
    generalize readE (nat s) = r at *
    go_enter Tryz.func130, Tryz.ntmps130
    go_wp2_with (first | (go_at_call 142; refine (HR _).out.mono ?_; rintro e w1 ⟨rfl, rfl⟩))
    refine bodyPost_ret (by simp [results, Tryz.results130, go_sem]; try rfl) rfl ?_
    exact ⟨by rw [hI.out]; rfl, Grew.refl _⟩

set_option maxHeartbeats 1000000 in
theorem fld_One (s o : ByteArray) (w : World) (hs : s.size ≤ 2000) (ho : o.size ≤ 2000) :
    Calls Tryz.prog 133 #[.string s, .string o] w fun e w' => e = .returned (.tuple #[.int .i64 ((oneOf (nat s) (nat o)).1 : Nat), .int .i64 ((oneOf (nat s) (nat o)).2 : Nat)]) ∧ Grew w w' := by
  have hl := nat_length s
  have hlo := nat_length o
  have HR := fun w => Lib.hid (fld_read s w hs)
  by_cases hr : readE (nat s) = 0
  · rw [hr] at HR
    have hz := readE_zero hr
    have y : ∀ w, Sem.run Tryz.prog (Instr.index 9 (.string s) (.int .i64 0)) w = .ok (.int .u8 (wd (nat s) 0 : Nat)) w := fun w => str_at s 0 (by omega) w
    have x256 := nat_lt s 0
    have hI : Hid (oneOf (nat s) (nat o) = if s.size = 1 ∧ placeOf (wd (nat s) 0) (nat o) < o.size then (placeOf (wd (nat s) 0) (nat o), 0) else (0, 5)) := by show _ = _; unfold oneOf; rw [if_neg (by omega), hl, hlo]
    have HX := fun w' => Tryz.strings_IndexByte o (wd (nat s) 0 : Nat) w'
    have e1 : (wd (nat s) 0).toUInt8.toNat = wd (nat s) 0 := Nat.mod_eq_of_lt x256
    have e2 : o.data.toList.map UInt8.toNat = nat o := rfl
    have e3 : o.data.toList.length = o.size := Array.length_toList ..
    rw [boolInt _ x256, index_place, e1, e2, e3] at HX
    generalize placeOf (wd (nat s) 0) (nat o) = P at *
    clear e1 e2 e3 hl hlo hr
    generalize wd (nat s) 0 = c at *
    have z1 : (0 : Int) < s.size := by omega
    by_cases hp : P < o.size
    · rw [if_pos hp] at HX
      replace HX := fun w => Lib.hid (HX w)
      have p0 : ¬ (P : Int) < 0 := by omega
      by_cases h1 : s.size = 1
      · have HI : Hid (oneOf (nat s) (nat o) = (P, 0)) := by show _ = _; rw [hI.out, if_pos ⟨h1, hp⟩]
        have c1 : (s.size : Int) = 1 := by omega
        clear hI h1 hz
        go_enter Tryz.func133, Tryz.ntmps133
        go_wp2_with (first | (go_at_call 142; refine (HR _).out.mono ?_; rintro e w1 ⟨rfl, rfl⟩) | (go_at_call 151; refine (HX _).out.mono ?_; rintro e w1 ⟨rfl, rfl⟩))
        go_ret2
        exact ⟨by rw [HI.out]; rfl, Grew.refl _⟩
      · have HI : Hid (oneOf (nat s) (nat o) = (0, 5)) := by show _ = _; rw [hI.out, if_neg (fun h => h1 h.1)]
        have c1 : ((s.size : Int) != 1) = true := by simp; omega
        have c2 : ((s.size : Int) == 1) = false := by simp; omega
        have c3 : ¬ (s.size : Int) = 1 := by omega
        clear hI h1 hz
        go_enter Tryz.func133, Tryz.ntmps133
        go_wp2_with (first | (go_at_call 142; refine (HR _).out.mono ?_; rintro e w1 ⟨rfl, rfl⟩) | (go_at_call 151; refine (HX _).out.mono ?_; rintro e w1 ⟨rfl, rfl⟩))
        go_ret2
        exact ⟨by rw [HI.out]; rfl, Grew.refl _⟩
    · rw [if_neg hp] at HX
      replace HX := fun w => Lib.hid (HX w)
      have HI : Hid (oneOf (nat s) (nat o) = (0, 5)) := by show _ = _; rw [hI.out, if_neg (fun h => hp h.2)]
      clear hI hz
      by_cases h1 : s.size = 1
      · have c1 : (s.size : Int) = 1 := by omega
        clear h1
        go_enter Tryz.func133, Tryz.ntmps133
        go_wp2_with (first | (go_at_call 142; refine (HR _).out.mono ?_; rintro e w1 ⟨rfl, rfl⟩) | (go_at_call 151; refine (HX _).out.mono ?_; rintro e w1 ⟨rfl, rfl⟩))
        go_ret2
        exact ⟨by rw [HI.out]; rfl, Grew.refl _⟩
      · have c1 : ((s.size : Int) != 1) = true := by simp; omega
        have c2 : ((s.size : Int) == 1) = false := by simp; omega
        have c3 : ¬ (s.size : Int) = 1 := by omega
        clear h1
        go_enter Tryz.func133, Tryz.ntmps133
        go_wp2_with (first | (go_at_call 142; refine (HR _).out.mono ?_; rintro e w1 ⟨rfl, rfl⟩) | (go_at_call 151; refine (HX _).out.mono ?_; rintro e w1 ⟨rfl, rfl⟩))
        go_ret2
        exact ⟨by rw [HI.out]; rfl, Grew.refl _⟩
  · have hI : Hid (oneOf (nat s) (nat o) = (0, readE (nat s))) := by show _ = _; unfold oneOf; rw [if_pos hr]
    have hr9 := readE_le (nat s)
    have r0 : ¬ (readE (nat s) : Int) = 0 := by omega
    have r1 : ((readE (nat s) : Int) == 0) = false := by simpa using r0
    clear hl hlo hr
    generalize readE (nat s) = r at *
    go_enter Tryz.func133, Tryz.ntmps133
    go_wp2_with (first | (go_at_call 142; refine (HR _).out.mono ?_; rintro e w1 ⟨rfl, rfl⟩))
    go_ret2
    exact ⟨by rw [hI.out]; rfl, Grew.refl _⟩
/- The program's fields: times of day. -/
theorem newDay (w : World) (E : TypeId) : ∃ W, w.alloc (.cells #[.int .i64 0, .int .i64 0, .int .i64 0, .bool false] E) = W ∧ Grew w W ∧ FourAt W w.heap.size (.int .i64 0) (.int .i64 0) (.int .i64 0) (.bool false) :=
  ⟨_, rfl, (Grew.refl w).alloc _, FourAt.new w _ _ _ _ _⟩
theorem two_take (S : List Nat) (n k : Nat) (h : k + 2 ≤ n) : twoOf ((S.take n).drop 0) k = twoOf S k := by
  have e : ∀ i, i < n → wd ((S.take n).drop 0) i = wd S i := fun i hi => by
    unfold wd
    rw [List.drop_zero]
    simp [List.getD_eq_getElem?_getD, hi]
  unfold twoOf
  rw [e k (by omega), e (k + 1) (by omega)]
theorem six_ahead (s : ByteArray) (p : Nat) (hp : p ≤ s.size) (hd : digs (nat s) 0 p = true) :
    sixOf (s.extract 0 p) = if p = 6 then .tuple #[.int .i64 (twoOf (nat s) 0 : Nat), .int .i64 (twoOf (nat s) 2 : Nat), .int .i64 (twoOf (nat s) 4 : Nat), .bool true] else .tuple #[.int .i64 0, .int .i64 0, .int .i64 0, .bool false] := by
  have hl := nat_length s
  rw [all_cut (nat s) p (by omega), Bool.and_eq_true] at hd
  unfold sixOf
  rw [size_extract, nat_extract, hd.2]
  by_cases h : p = 6
  · subst h
    rw [if_pos ⟨by omega, rfl⟩, if_pos rfl, two_take _ _ 0 (by omega), two_take _ _ 2 (by omega), two_take _ _ 4 (by omega)]
  · rw [if_neg (fun hh => h (by omega)), if_neg h]
theorem fld_zeros (s : ByteArray) (a : Addr) (w : World) (hs : s.size ≤ 2000) (ha : w.cell? a = some (.string ⟨#[48]⟩)) :
    Calls Tryz.prog 156 #[.string s, .pointer (some a)] w fun e w' => e = .returned (.bool ((nat s).all (fun b => b == 48))) ∧ Grew w w' :=
  fld_all s _ _ _ a w hs ha among_zero
set_option maxRecDepth 100000 in
set_option maxHeartbeats 2000000 in
theorem fld_Clock (s : ByteArray) (w : World) (hs : s.size ≤ 2000) :
    Calls Tryz.prog 125 #[.string s] w fun e w' => e = .returned (dayVal (clockOf (nat s))) ∧ Grew w w' := by
  have hl := nat_length s
  have HR := fun w => Lib.hid (fld_read s w hs)
  have hpl := pointOf_le (nat s)
  rw [hl] at hpl
  have HW := Lib.hid (newDay w 40)
  obtain ⟨p, hp⟩ : ∃ p, pointOf (nat s) = p := ⟨_, rfl⟩
  have HP := fun w => fld_atPoint s p w hs hp
  rw [hp] at hpl
  by_cases hr : readE (nat s) = 0
  · have hB : Hid (clockOf (nat s) = if p ≠ 6 ∨ digs (nat s) 0 6 = false ∨ (6 < s.size ∧ digs (nat s) 7 s.size = false) then ((0, 0, 0, false), 5)
      else if 23 < twoOf (nat s) 0 ∨ 59 < twoOf (nat s) 2 ∨ 60 < twoOf (nat s) 4 then ((0, 0, 0, false), 5)
      else ((twoOf (nat s) 0, twoOf (nat s) 2, twoOf (nat s) 4, ((nat s).drop 7).all (fun b => b == 48)), 0)) := by show _ = _; unfold clockOf; rw [if_neg (by omega), hl, hp]
    rw [hr] at HR
    by_cases hb1 : digs (nat s) 0 p = false ∨ (p < s.size ∧ digs (nat s) (p + 1) s.size = false)
    · have hI : Hid (clockOf (nat s) = ((0, 0, 0, false), 5)) := by
        show _ = _
        by_cases h6 : p = 6
        · subst h6
          rw [hB.out, if_pos (.inr hb1)]
        · rw [hB.out, if_pos (.inl h6)]
      have e6 : atPt s p = .tuple #[.string ⟨#[]⟩, .string ⟨#[]⟩, .bool false] := by unfold atPt; rw [if_pos hb1]
      rw [e6] at HP
      replace HP := fun w => Lib.hid (HP w)
      clear hB hl hr hb1 e6 hp hpl
      go_enter Tryz.func125, Tryz.ntmps125
      go_upto_region 1 with fail
      obtain ⟨W, hW, gW, hA⟩ := HW.out
      rw [hW]
      have HA := Lib.hid hA
      have HG := Lib.hid gW
      clear hW HW hA gW
      go_upto_region 5 with (first | (go_at_call 142; refine (HR _).out.mono ?_; rintro e w1 ⟨rfl, rfl⟩) | (go_at_call 143; refine (HP _).out.mono ?_; rintro e w1 ⟨rfl, g1⟩; replace HA := Lib.hid (HA.out.grew g1); replace HG := Lib.hid (HG.out.trans g1); clear g1))
      obtain ⟨a, a0, a1, a2, a3, a4, a5, a6, a7⟩ := HA.out
      go_wp2_with fail
      refine bodyPost_ret (by simp [results, Tryz.results125, go_sem, a0, a1, a2, a3]; try rfl) rfl ?_
      exact ⟨by rw [hI.out]; rfl, HG.out.four _ (Nat.le_refl _) _ _ _ _⟩
    · have hd : digs (nat s) 0 p = true := by cases h : digs (nat s) 0 p; exact absurd (.inl h) hb1; rfl
      have e6 : atPt s p = .tuple #[.string (s.extract 0 p), .string (s.extract (p + 1) s.size), .bool true] := by unfold atPt; rw [if_neg hb1]
      rw [e6] at HP
      replace HP := fun w => Lib.hid (HP w)
      have hS := fun w => fld_six (s.extract 0 p) w (by rw [size_extract]; omega)
      rw [six_ahead s p hpl hd] at hS
      by_cases h6 : p = 6
      · rw [if_pos h6] at hS
        have HS := fun w => Lib.hid (hS w)
        have HO := fun w => Lib.hid (fld_allOf ⟨#[48]⟩ w)
        have HZ := fun a w h => fld_zeros (s.extract (p + 1) s.size) a w (by rw [size_extract]; omega) h
        have e7 : ((nat (s.extract (p + 1) s.size)).all fun b => b == 48) = ((nat s).drop 7).all (fun b => b == 48) := by
          rw [nat_extract, List.take_of_length_le (by omega), h6]
        rw [e7] at HZ
        have hB2 : Hid (clockOf (nat s) = if 23 < twoOf (nat s) 0 ∨ 59 < twoOf (nat s) 2 ∨ 60 < twoOf (nat s) 4 then ((0, 0, 0, false), 5)
            else ((twoOf (nat s) 0, twoOf (nat s) 2, twoOf (nat s) 4, ((nat s).drop 7).all (fun b => b == 48)), 0)) := by
          show _ = _
          rw [hB.out, if_neg (fun h => by
            subst h6
            rcases h with h | h | h
            · exact h rfl
            · exact hb1 (.inl h)
            · exact hb1 (.inr h))]
        replace HZ := fun a w h => Lib.hid (HZ a w h)
        generalize ((nat s).drop 7).all (fun b => b == 48) = wh at *
        generalize s.extract 0 p = A at *
        generalize s.extract (p + 1) s.size = B at *
        generalize twoOf (nat s) 0 = T0 at *
        generalize twoOf (nat s) 2 = T2 at *
        generalize twoOf (nat s) 4 = T4 at *
        clear hB hl hr hb1 e6 hp hpl hS hd e7 h6
        go_enter Tryz.func125, Tryz.ntmps125
        go_upto_region 1 with fail
        obtain ⟨W, hW, gW, hA⟩ := HW.out
        rw [hW]
        have HA := Lib.hid hA
        have HG := Lib.hid gW
        clear hW HW hA gW
        go_upto_region 8 with (first | (go_at_call 142; refine (HR _).out.mono ?_; rintro e w1 ⟨rfl, rfl⟩) | (go_at_call 143; refine (HP _).out.mono ?_; rintro e w1 ⟨rfl, g1⟩; replace HA := Lib.hid (HA.out.grew g1); replace HG := Lib.hid (HG.out.trans g1); clear g1) | (go_at_call 144; refine (HS _).out.mono ?_; rintro e w1 ⟨rfl, g1⟩; replace HA := Lib.hid (HA.out.grew g1); replace HG := Lib.hid (HG.out.trans g1); clear g1))
        by_cases hbad : 23 < T0 ∨ 59 < T2 ∨ 60 < T4
        · have hI : Hid (clockOf (nat s) = ((0, 0, 0, false), 5)) := by show _ = _; rw [hB2.out, if_pos hbad]
          have hcase : 23 < T0 ∨ (¬ 23 < T0 ∧ 59 < T2) ∨ (¬ 23 < T0 ∧ ¬ 59 < T2 ∧ 60 < T4) := by omega
          clear hB2 hbad
          obtain ⟨a, a0, a1, a2, a3, a4, a5, a6, a7⟩ := HA.out
          rcases hcase with h | ⟨h, h'⟩ | ⟨h, h', h''⟩
          all_goals
            go_wp2_with fail
            refine bodyPost_ret (by simp [results, Tryz.results125, go_sem, a0, a1, a2, a3]; try rfl) rfl ?_
            exact ⟨by rw [hI.out]; rfl, HG.out.four _ (Nat.le_refl _) _ _ _ _⟩
        · have hI : Hid (clockOf (nat s) = ((T0, T2, T4, wh), 0)) := by show _ = _; rw [hB2.out, if_neg hbad]
          have z1 : ¬ (23 : Int) < T0 := by omega
          have z2 : ¬ (59 : Int) < T2 := by omega
          have z3 : ¬ (60 : Int) < T4 := by omega
          clear hB2 hbad
          go_wp2_with (first | (go_at_call 145; refine (HO _).out.mono ?_; rintro e w1 ⟨q, rfl, hq, g1⟩; replace HA := Lib.hid (HA.out.grew g1); replace HG := Lib.hid (HG.out.trans g1); have HQ := Lib.hid hq; clear hq g1) | (go_at_call 156; (with_reducible refine (HZ q _ HQ.out).out.mono ?_); rintro e w1 ⟨rfl, g1⟩; replace HA := Lib.hid (HA.out.grew g1); replace HG := Lib.hid (HG.out.trans g1); clear g1; obtain ⟨a, a0, a1, a2, a3, a4, a5, a6, a7⟩ := HA.out))
          refine bodyPost_ret (by simp [results, Tryz.results125, go_sem, a0, a1, a2, a3]; try rfl) rfl ?_
          exact ⟨by rw [hI.out]; rfl, HG.out.four _ (Nat.le_refl _) _ _ _ _⟩
      · have hI : Hid (clockOf (nat s) = ((0, 0, 0, false), 5)) := by show _ = _; rw [hB.out, if_pos (.inl h6)]
        rw [if_neg h6] at hS
        have HS := fun w => Lib.hid (hS w)
        generalize s.extract 0 p = A at *
        generalize s.extract (p + 1) s.size = B at *
        clear hB hl hr hb1 e6 hp hpl hS hd h6
        go_enter Tryz.func125, Tryz.ntmps125
        go_upto_region 1 with fail
        obtain ⟨W, hW, gW, hA⟩ := HW.out
        rw [hW]
        have HA := Lib.hid hA
        have HG := Lib.hid gW
        clear hW HW hA gW
        go_upto_region 8 with (first | (go_at_call 142; refine (HR _).out.mono ?_; rintro e w1 ⟨rfl, rfl⟩) | (go_at_call 143; refine (HP _).out.mono ?_; rintro e w1 ⟨rfl, g1⟩; replace HA := Lib.hid (HA.out.grew g1); replace HG := Lib.hid (HG.out.trans g1); clear g1) | (go_at_call 144; refine (HS _).out.mono ?_; rintro e w1 ⟨rfl, g1⟩; replace HA := Lib.hid (HA.out.grew g1); replace HG := Lib.hid (HG.out.trans g1); clear g1))
        obtain ⟨a, a0, a1, a2, a3, a4, a5, a6, a7⟩ := HA.out
        go_wp2_with fail
        refine bodyPost_ret (by simp [results, Tryz.results125, go_sem, a0, a1, a2, a3]; try rfl) rfl ?_
        exact ⟨by rw [hI.out]; rfl, HG.out.four _ (Nat.le_refl _) _ _ _ _⟩
  · have hI : Hid (clockOf (nat s) = ((0, 0, 0, false), readE (nat s))) := by show _ = _; unfold clockOf; rw [if_pos hr]
    have hr9 := readE_le (nat s)
    have r0 : ¬ (readE (nat s) : Int) = 0 := by omega
    have r1 : ((readE (nat s) : Int) == 0) = false := by simpa using r0
    clear hl hr hp hpl HP
    generalize readE (nat s) = r at *
    go_enter Tryz.func125, Tryz.ntmps125
    go_upto_region 1 with fail
    obtain ⟨W, hW, gW, hA⟩ := HW.out
    rw [hW]
    obtain ⟨a, a0, a1, a2, a3, a4, a5, a6, a7⟩ := hA
    clear hW HW
    go_wp2_with (first | (go_at_call 142; refine (HR _).out.mono ?_; rintro e w1 ⟨rfl, rfl⟩))
    refine bodyPost_ret (by simp [results, Tryz.results125, go_sem, a0, a1, a2, a3]; try rfl) rfl ?_
    exact ⟨by rw [hI.out]; rfl, gW.four _ (Nat.le_refl _) _ _ _ _⟩
/- The program's fields: numbers with places, as plain lists. -/
theorem wd_append_lt (A K : List Nat) (i : Nat) (h : i < A.length) : wd (A ++ K) i = wd A i := by
  unfold wd
  rw [List.getD_eq_getElem?_getD, List.getD_eq_getElem?_getD, List.getElem?_append_left h]
theorem wd_append_ge (A K : List Nat) (k : Nat) : wd (A ++ K) (A.length + k) = wd K k := by
  unfold wd
  rw [List.getD_eq_getElem?_getD, List.getD_eq_getElem?_getD, List.getElem?_append_right (by omega), Nat.add_sub_cancel_left]
theorem num_ahead (S A K : List Nat) (f p : Nat) (hA : A.length = p - f) (h1 : ∀ i, i < p - f → wd A i = wd S (f + i)) : ∀ k, k ≤ p - f → numOf (A ++ K) 0 k = numOf S f k
  | 0, _ => rfl
  | k + 1, h => by rw [numOf, numOf, num_ahead S A K f p hA h1 k (by omega), Nat.zero_add, wd_append_lt A K k (by omega), h1 k (by omega)]
theorem num_fix (S A K : List Nat) (f p P : Nat) (hA : A.length = p - f) (h1 : ∀ i, i < p - f → wd A i = wd S (f + i)) (h2 : ∀ k, k < P → wd K k = if p + (k + 1) < S.length then wd S (p + (k + 1)) else 48) :
    ∀ k, k ≤ P → numOf (A ++ K) 0 (A.length + k) = fixN S p (numOf S f (p - f)) k
  | 0, _ => by rw [Nat.add_zero, num_ahead S A K f p hA h1 A.length (by omega), hA]; rfl
  | k + 1, h => by
    rw [← Nat.add_assoc, numOf, fixN, num_fix S A K f p P hA h1 h2 k (by omega), Nat.zero_add, wd_append_ge, h2 k (by omega)]
    split <;> rfl
/-- What stands behind a point, with so many zeros, so many digits of it. -/
def keptOf (S : List Nat) (p P : Nat) : List Nat := (S.drop (p + 1) ++ List.replicate P 48).take P
theorem kept_len (S : List Nat) (p P : Nat) : (keptOf S p P).length = P := by
  unfold keptOf
  rw [List.length_take, List.length_append, List.length_replicate]
  omega
theorem kept_wd (S : List Nat) (p P k : Nat) (h : k < P) : wd (keptOf S p P) k = if p + (k + 1) < S.length then wd S (p + (k + 1)) else 48 := by
  unfold keptOf wd
  rw [List.getD_eq_getElem?_getD, List.getElem?_take_of_lt h]
  by_cases hk : p + (k + 1) < S.length
  · rw [if_pos hk, List.getElem?_append_left (by rw [List.length_drop]; omega), List.getElem?_drop, show p + 1 + k = p + (k + 1) by omega, ← List.getD_eq_getElem?_getD]
  · rw [if_neg hk, List.getElem?_append_right (by rw [List.length_drop]; omega), List.getElem?_replicate_of_lt (by omega)]
    rfl
theorem rep_zero : ∀ P, nat ⟨(Lib.repeatL [48] P).toArray⟩ = List.replicate P 48
  | 0 => rfl
  | P + 1 => by
    rw [nat_mk, Lib.repeatL, List.map_append, List.replicate_succ]
    show [48] ++ List.map UInt8.toNat (Lib.repeatL [48] P) = _
    have := rep_zero P
    rw [nat_mk] at this
    rw [this]; rfl
theorem digs_drop (S : List Nat) (f a b : Nat) (hb : f + b ≤ S.length) : digs (S.drop f) a b = digs S (f + a) (f + b) := by
  unfold digs
  rw [List.drop_drop, show f + b - (f + a) = b - a by omega]
  congr 1
  rw [decide_eq_decide]
  omega
theorem from_le (S : List Nat) : fromOf S ≤ 1 := by unfold fromOf; split <;> omega
theorem point_drop (S : List Nat) (h : 0 < S.length) : fromOf S ≤ pointOf S ∧ pointOf (S.drop (fromOf S)) = pointOf S - fromOf S := by
  cases S with
  | nil => simp at h
  | cons x S =>
    by_cases hx : x = 45
    · subst hx
      have e : fromOf (45 :: S) = 1 := rfl
      have e2 : pointOf (45 :: S) = pointOf S + 1 := by rw [point_place, point_place, placeOf]; rfl
      rw [e, e2]
      exact ⟨by omega, by simp⟩
    · have e : fromOf (x :: S) = 0 := by unfold fromOf wd; simp [hx]
      rw [e]
      exact ⟨by omega, by simp⟩
theorem cut_minus (s : ByteArray) (h : 0 < s.size) : (⟨(Lib.trimPrefix s.data.toList [45]).toArray⟩ : ByteArray) = s.extract (fromOf (nat s)) s.size ∧ Lib.hasPrefix s.data.toList [45] = decide (fromOf (nat s) = 1) := by
  have hl := nat_length s
  have e : nat s = s.data.toList.map UInt8.toNat := rfl
  have hpre : Lib.hasPrefix s.data.toList [45] = decide (fromOf (nat s) = 1) := by
    unfold fromOf wd
    rw [e]
    cases hL : s.data.toList with
    | nil => rw [e, hL] at hl; simp at hl; omega
    | cons x L =>
      show ([45] : List UInt8).isPrefixOf (x :: L) = _
      by_cases hx : x = 45
      · subst hx; simp [List.isPrefixOf]
      · have hx2 : ¬ x.toNat = 45 := fun h => hx (UInt8.toNat_inj.1 h)
        have hx3 : ((45 : UInt8) == x) = false := by simpa using fun h => hx h.symm
        simp [List.isPrefixOf, hx2, hx3]
  refine ⟨nat_ext ?_, hpre⟩
  rw [nat_extract, List.take_of_length_le (by omega), nat_mk]
  unfold Lib.trimPrefix
  rw [hpre]
  rcases (show fromOf (nat s) = 0 ∨ fromOf (nat s) = 1 by have := from_le (nat s); omega) with hf | hf
  · rw [hf]; rfl
  · rw [hf, if_pos (by decide), List.map_drop]; rfl
/- The program's fields: numbers with places. -/
/-- What the program has of a text that may be a number with places: its digits all are, and how many. -/
theorem fix_bad (s : ByteArray) (hr : 0 < s.size) : ∃ p, pointOf (nat (s.extract (fromOf (nat s)) s.size)) = p ∧ p ≤ s.size - fromOf (nat s) ∧ pointOf (nat s) = p + fromOf (nat s) ∧
    ((digs (nat (s.extract (fromOf (nat s)) s.size)) 0 p = false ∨ (p < (s.extract (fromOf (nat s)) s.size).size ∧ digs (nat (s.extract (fromOf (nat s)) s.size)) (p + 1) (s.extract (fromOf (nat s)) s.size).size = false)) ↔
      (digs (nat s) (fromOf (nat s)) (pointOf (nat s)) = false ∨ (pointOf (nat s) < s.size ∧ digs (nat s) (pointOf (nat s) + 1) s.size = false))) := by
  have hl := nat_length s
  obtain ⟨h1, h2⟩ := point_drop (nat s) (by omega)
  have hle := pointOf_le (nat s)
  have hf := from_le (nat s)
  have e : nat (s.extract (fromOf (nat s)) s.size) = (nat s).drop (fromOf (nat s)) := by rw [nat_extract, List.take_of_length_le (by omega)]
  rw [e, size_extract, h2]
  generalize pointOf (nat s) = p at *
  generalize fromOf (nat s) = f at *
  refine ⟨p - f, rfl, by omega, by omega, ?_⟩
  rw [digs_drop _ f 0 (p - f) (by omega), digs_drop _ f (p - f + 1) (min s.size s.size - f) (by omega), show f + 0 = f by omega, show f + (p - f) = p by omega, show f + (p - f + 1) = p + 1 by omega, show f + (min s.size s.size - f) = s.size by omega]
  constructor
  · rintro (h | ⟨h, h'⟩)
    · exact .inl h
    · exact .inr ⟨by omega, h'⟩
  · rintro (h | ⟨h, h'⟩)
    · exact .inl h
    · exact .inr ⟨by omega, h'⟩
/-- The number of the program's digits is the document's. -/
theorem fix_num (s : ByteArray) (P p : Nat) (hr : 0 < s.size) (hp : pointOf (nat s) = p + fromOf (nat s)) (hok : ¬ (digs (nat s) (fromOf (nat s)) (pointOf (nat s)) = false ∨ (pointOf (nat s) < s.size ∧ digs (nat s) (pointOf (nat s) + 1) s.size = false)))
    (A B : ByteArray) (hA : A = (s.extract (fromOf (nat s)) s.size).extract 0 p) (hB : B = (s.extract (fromOf (nat s)) s.size).extract (p + 1) (s.extract (fromOf (nat s)) s.size).size) (K : ByteArray) (hK : K = (B ++ ⟨(Lib.repeatL [48] P).toArray⟩).extract 0 P) :
    A.size = p ∧ (A ++ K).size = p + P ∧ (nat (A ++ K)).all isDig = true ∧ numOf (nat (A ++ K)) 0 (A ++ K).size = fixN (nat s) (pointOf (nat s)) (numOf (nat s) (fromOf (nat s)) (pointOf (nat s) - fromOf (nat s))) P := by
  have hl := nat_length s
  have hle := pointOf_le (nat s)
  have hf := from_le (nat s)
  have e : nat (s.extract (fromOf (nat s)) s.size) = (nat s).drop (fromOf (nat s)) := by rw [nat_extract, List.take_of_length_le (by omega)]
  have d1 : digs (nat s) (fromOf (nat s)) (pointOf (nat s)) = true := by cases h : digs (nat s) (fromOf (nat s)) (pointOf (nat s)); exact absurd (.inl h) hok; rfl
  have d2 : pointOf (nat s) < s.size → digs (nat s) (pointOf (nat s) + 1) s.size = true := fun h => by cases h2 : digs (nat s) (pointOf (nat s) + 1) s.size; exact absurd (.inr ⟨h, h2⟩) hok; rfl
  have nA : nat A = ((nat s).drop (fromOf (nat s))).take p := by rw [hA, nat_extract, e, List.drop_zero]
  have e3 : ((nat s).drop (fromOf (nat s))).take (min s.size s.size - fromOf (nat s)) = (nat s).drop (fromOf (nat s)) := List.take_of_length_le (by rw [List.length_drop]; omega)
  have nK : nat K = keptOf (nat s) (pointOf (nat s)) P := by
    rw [hK, nat_extract, List.drop_zero, nat_append, rep_zero, hB, nat_extract, e, size_extract, e3, List.drop_drop, hp]
    unfold keptOf
    rw [show fromOf (nat s) + (p + 1) = p + fromOf (nat s) + 1 by omega]
  have lA : (nat A).length = p := by rw [nA, List.length_take, List.length_drop]; omega
  have lK : (nat K).length = P := by rw [nK, kept_len]
  have wA : ∀ i, i < p → wd (nat A) i = wd (nat s) (fromOf (nat s) + i) := fun i hi => by
    rw [nA]; unfold wd
    rw [List.getD_eq_getElem?_getD, List.getD_eq_getElem?_getD, List.getElem?_take_of_lt hi, List.getElem?_drop]
  have hdA := digs_all (S := nat s) (by omega) d1
  have sz : (A ++ K).size = p + P := by rw [← nat_length, nat_append, List.length_append, lA, lK]
  refine ⟨by rw [← nat_length]; exact lA, sz, ?_, ?_⟩
  · rw [nat_append, List.all_append, Bool.and_eq_true]
    refine ⟨all_iff.2 fun i hi => ?_, all_iff.2 fun i hi => ?_⟩
    · rw [wA i (by omega)]
      exact hdA _ (by omega) (by omega)
    · rw [nK, kept_wd _ _ _ _ (by omega)]
      by_cases hin : pointOf (nat s) + (i + 1) < (nat s).length
      · rw [if_pos hin]
        exact digs_all (S := nat s) (by omega) (d2 (by omega)) _ (by omega) (by omega)
      · rw [if_neg hin]; rfl
  · rw [sz, nat_append, ← lA]
    refine num_fix (nat s) (nat A) (nat K) (fromOf (nat s)) (pointOf (nat s)) P (by omega) (fun i hi => wA i (by omega)) (fun k hk => ?_) P (Nat.le_refl _)
    rw [nK, kept_wd _ _ _ _ hk]
theorem fix_lt (s : ByteArray) (P : Nat) (hP : P ≤ 9) (h9 : ¬ 9 < pointOf (nat s) - fromOf (nat s)) (hok : ¬ (digs (nat s) (fromOf (nat s)) (pointOf (nat s)) = false ∨ (pointOf (nat s) < s.size ∧ digs (nat s) (pointOf (nat s) + 1) s.size = false))) :
    fixN (nat s) (pointOf (nat s)) (numOf (nat s) (fromOf (nat s)) (pointOf (nat s) - fromOf (nat s))) P < 10 ^ 18 := by
  have hl := nat_length s
  have hle := pointOf_le (nat s)
  have d1 : digs (nat s) (fromOf (nat s)) (pointOf (nat s)) = true := by cases h : digs (nat s) (fromOf (nat s)) (pointOf (nat s)); exact absurd (.inl h) hok; rfl
  have d2 : pointOf (nat s) < s.size → digs (nat s) (pointOf (nat s) + 1) s.size = true := fun h => by cases h2 : digs (nat s) (pointOf (nat s) + 1) s.size; exact absurd (.inr ⟨h, h2⟩) hok; rfl
  have hdA := digs_all (S := nat s) (by omega) d1
  have h1 := numOf_lt (nat s) (fromOf (nat s)) (pointOf (nat s) - fromOf (nat s)) (fun i h h' => hdA i h (by omega))
  have h2 : numOf (nat s) (fromOf (nat s)) (pointOf (nat s) - fromOf (nat s)) < 10 ^ 9 := Nat.lt_of_lt_of_le h1 (Nat.pow_le_pow_right (by omega) (by omega))
  have h3 := fixN_lt (nat s) (pointOf (nat s)) _ h2 (fun i h h' => digs_all (S := nat s) (by omega) (d2 (by omega)) i (by omega) (by omega)) P
  exact Nat.lt_of_lt_of_le h3 (Nat.pow_le_pow_right (by omega) (by omega))
/- The program's fields: numbers with places, the walk. -/
set_option maxRecDepth 100000 in
set_option maxHeartbeats 2000000 in
theorem fld_Fixed (s : ByteArray) (places : Int) (w : World) (hs : s.size ≤ 2000) (hpl : -9223372036854775808 ≤ places ∧ places ≤ 9223372036854775807) :
    Calls Tryz.prog 132 #[.string s, .int .i64 places] w fun e w' => e = .returned (.tuple #[.int .i64 (fixedOf (nat s) places).1, .int .i64 ((fixedOf (nat s) places).2 : Nat)]) ∧ Grew w w' := by
  have hl := nat_length s
  have HR := fun w => Lib.hid (fld_read s w hs)
  by_cases hr : readE (nat s) = 0
  · rw [hr] at HR
    by_cases hP : places < 0 ∨ 9 < places
    · have hI : Hid (fixedOf (nat s) places = (0, 2)) := by show _ = _; unfold fixedOf; rw [if_neg (by omega), if_pos hP]
      have hcase : places < 0 ∨ (¬ places < 0 ∧ 9 < places) := by omega
      clear hl hr hP
      rcases hcase with h | ⟨h, h'⟩
      all_goals
        go_enter Tryz.func132, Tryz.ntmps132
        go_wp2_with (first | (go_at_call 142; refine (HR _).out.mono ?_; rintro e w1 ⟨rfl, rfl⟩))
        go_ret2
        exact ⟨by rw [hI.out]; rfl, Grew.refl _⟩
    · obtain ⟨P, rfl⟩ : ∃ P : Nat, places = P := ⟨places.toNat, by omega⟩
      have hP9 : P ≤ 9 := by omega
      have hz := readE_zero hr
      have hB : Hid (fixedOf (nat s) (P : Nat) = fixedBody (nat s) P (fromOf (nat s))) := fixed_body (nat s) P hr hP9
      have hfle := from_le (nat s)
      obtain ⟨p, hp, hple, hpp, hiff⟩ := fix_bad s (by omega)
      obtain ⟨ecut, epre⟩ := cut_minus s (by omega)
      have HC : ∀ w, Hid _ := fun w => Lib.hid (Tryz.strings_CutPrefix s ⟨#[45]⟩ w)
      rw [show (⟨#[45]⟩ : ByteArray).data.toList = [45] from rfl, ecut, epre] at HC
      have HP := fun w => fld_atPoint (s.extract (fromOf (nat s)) s.size) p w (by rw [size_extract]; omega) hp
      have hN := fun A B K hA hB hK hok => fix_num s P p (by omega) hpp hok A B hA hB K hK
      have hLT := fun h9 hok => fix_lt s P hP9 h9 hok
      have hBB : Hid (fixedBody (nat s) P (fromOf (nat s)) = if digs (nat s) (fromOf (nat s)) (pointOf (nat s)) = false ∨ (pointOf (nat s) < s.size ∧ digs (nat s) (pointOf (nat s) + 1) s.size = false) then (0, 5)
        else if 9 < pointOf (nat s) - fromOf (nat s) then (0, 9)
        else (if fromOf (nat s) = 1 then -(fixN (nat s) (pointOf (nat s)) (numOf (nat s) (fromOf (nat s)) (pointOf (nat s) - fromOf (nat s))) P : Int) else (fixN (nat s) (pointOf (nat s)) (numOf (nat s) (fromOf (nat s)) (pointOf (nat s) - fromOf (nat s))) P : Int), 0)) := by show _ = _; unfold fixedBody; rw [hl]
      have q0 : ¬ (P : Int) < 0 := by omega
      have q1 : ¬ (9 : Int) < P := by omega
      have HRep := fun w => Lib.hid (Tryz.strings_Repeat ⟨#[48]⟩ P w (by omega) (by show 1 * P ≤ _; omega))
      rw [show (⟨#[48]⟩ : ByteArray).data.toList = [48] from rfl] at HRep
      have hZ : (⟨(Lib.repeatL [48] P).toArray⟩ : ByteArray).size = P := by rw [← nat_length, rep_zero, List.length_replicate]
      by_cases hbad : digs (nat s) (fromOf (nat s)) (pointOf (nat s)) = false ∨ (pointOf (nat s) < s.size ∧ digs (nat s) (pointOf (nat s) + 1) s.size = false)
      · have hI : Hid (fixedOf (nat s) (P : Nat) = (0, 5)) := by show _ = _; rw [hB.out, hBB.out, if_pos hbad]
        have e6 : atPt (s.extract (fromOf (nat s)) s.size) p = .tuple #[.string ⟨#[]⟩, .string ⟨#[]⟩, .bool false] := by unfold atPt; rw [if_pos (hiff.2 hbad)]
        rw [e6] at HP
        replace HP := fun w => Lib.hid (HP w)
        generalize decide (fromOf (nat s) = 1) = D at *
        generalize s.extract (fromOf (nat s)) s.size = U at *
        clear hB hBB hl hr hbad e6 hp hple hpp hiff ecut epre hN hLT HRep hZ hfle
        go_enter Tryz.func132, Tryz.ntmps132
        go_wp2_with (first | (go_at_call 142; refine (HR _).out.mono ?_; rintro e w1 ⟨rfl, rfl⟩) | (go_at_call 149; refine (HC _).out.mono ?_; rintro e w1 ⟨rfl, rfl⟩) | (go_at_call 143; refine (HP _).out.mono ?_; rintro e w1 ⟨rfl, g1⟩))
        go_ret2
        exact ⟨by rw [hI.out]; rfl, g1⟩
      · have e6 : atPt (s.extract (fromOf (nat s)) s.size) p = .tuple #[.string ((s.extract (fromOf (nat s)) s.size).extract 0 p), .string ((s.extract (fromOf (nat s)) s.size).extract (p + 1) (s.extract (fromOf (nat s)) s.size).size), .bool true] := by unfold atPt; rw [if_neg (fun h => hbad (hiff.1 h))]
        rw [e6] at HP
        obtain ⟨sA, sAK, dAK, nAK⟩ := hN _ _ _ rfl rfl rfl hbad
        have hI : Hid (fixedOf (nat s) (P : Nat) = if 9 < p then (0, 9) else (if fromOf (nat s) = 1 then -(fixN (nat s) (pointOf (nat s)) (numOf (nat s) (fromOf (nat s)) (pointOf (nat s) - fromOf (nat s))) P : Int) else (fixN (nat s) (pointOf (nat s)) (numOf (nat s) (fromOf (nat s)) (pointOf (nat s) - fromOf (nat s))) P : Int), 0)) := by
          show _ = _
          rw [hB.out, hBB.out, if_neg hbad, show pointOf (nat s) - fromOf (nat s) = p by omega]
        have hlt := fun h9 => hLT h9 hbad
        rw [show pointOf (nat s) - fromOf (nat s) = p by omega] at hlt nAK hI
        have szB : ((s.extract (fromOf (nat s)) s.size).extract (p + 1) (s.extract (fromOf (nat s)) s.size).size).size ≤ 2000 := by rw [size_extract, size_extract]; omega
        clear hB hBB hr hbad e6 hp hiff ecut epre hN hLT
        generalize s.extract (fromOf (nat s)) s.size = U at *
        generalize U.extract 0 p = A at *
        generalize U.extract (p + 1) U.size = B at *
        replace HP := fun w => Lib.hid (HP w)
        generalize (⟨(Lib.repeatL [48] P).toArray⟩ : ByteArray) = Z at *
        have G := Lib.hid (Grew.refl w)
        have hf01 : fromOf (nat s) = 0 ∨ fromOf (nat s) = 1 := by omega
        by_cases h9 : 9 < p
        · have HI : Hid (fixedOf (nat s) (P : Nat) = (0, 9)) := by show _ = _; rw [hI.out, if_pos h9]
          have c1 : (9 : Int) < A.size := by omega
          clear hI hlt nAK dAK sAK HRep hf01
          generalize decide (fromOf (nat s) = 1) = D at *
          go_enter Tryz.func132, Tryz.ntmps132
          go_wp2_with (first | (go_at_call 142; refine (HR _).out.mono ?_; rintro e w1 ⟨rfl, rfl⟩) | (go_at_call 149; refine (HC _).out.mono ?_; rintro e w1 ⟨rfl, rfl⟩) | (go_at_call 143; refine (HP _).out.mono ?_; rintro e w1 ⟨rfl, g1⟩; replace G := Lib.hid (G.out.trans g1); clear g1))
          go_ret2
          exact ⟨by rw [HI.out]; rfl, G.out⟩
        · have c1 : ¬ (9 : Int) < A.size := by omega
          replace hlt := hlt h9
          rw [if_neg h9] at hI
          have HN := fun w => fld_num_dec (A ++ (B ++ Z).extract 0 P) w (by omega) dAK
          rw [nAK] at HN
          generalize fixN (nat s) (pointOf (nat s)) (numOf (nat s) (fromOf (nat s)) p) P = n at *
          unfold told at HN
          rw [if_pos (show n ≤ 9223372036854775807 by omega), decide_eq_true (show n ≤ 9223372036854775807 by omega)] at HN
          have HN2 := fun w => Lib.hid (HN w)
          have sBZ : (B ++ Z).size = B.size + P := by rw [← nat_length, nat_append, List.length_append, nat_length, nat_length, hZ]
          have p0 : (0 : Int) ≤ P := by omega
          have p1 : (P : Int) ≤ ((B ++ Z).size : Nat) := by omega
          have p2 : (P : Int) ≤ (B.size : Int) + (Z.size : Int) := by omega
          have p3 : (B.size : Int) + (Z.size : Int) ≤ 4000 := by omega
          have e1 : IntKind.i64.wrap (-(n : Int)) = -(n : Int) := IntWalk.i64_in _ (by omega)
          clear HN nAK dAK
          rcases hf01 with hf | hf
          · rw [hf] at hI HC
            rw [show decide ((0 : Nat) = 1) = false from rfl] at HC
            have HI : Hid (fixedOf (nat s) (P : Nat) = ((n : Int), 0)) := by show _ = _; rw [hI.out]; rfl
            clear hI hf
            go_enter Tryz.func132, Tryz.ntmps132
            go_wp2_with (first | (go_at_call 142; refine (HR _).out.mono ?_; rintro e w1 ⟨rfl, rfl⟩) | (go_at_call 149; refine (HC _).out.mono ?_; rintro e w1 ⟨rfl, rfl⟩) | (go_at_call 143; refine (HP _).out.mono ?_; rintro e w1 ⟨rfl, g1⟩; replace G := Lib.hid (G.out.trans g1); clear g1) | (go_at_call 150; refine (HRep _).out.mono ?_; rintro e w1 ⟨rfl, g1⟩; replace G := Lib.hid (G.out.trans g1); clear g1) | (go_at_call 148; refine (HN2 _).out.mono ?_; rintro e w1 ⟨rfl, rfl⟩))
            go_ret2
            exact ⟨by rw [HI.out]; rfl, G.out⟩
          · rw [hf] at hI HC
            rw [show decide ((1 : Nat) = 1) = true from rfl] at HC
            have HI : Hid (fixedOf (nat s) (P : Nat) = (-(n : Int), 0)) := by show _ = _; rw [hI.out]; rfl
            clear hI hf
            go_enter Tryz.func132, Tryz.ntmps132
            go_wp2_with (first | (go_at_call 142; refine (HR _).out.mono ?_; rintro e w1 ⟨rfl, rfl⟩) | (go_at_call 149; refine (HC _).out.mono ?_; rintro e w1 ⟨rfl, rfl⟩) | (go_at_call 143; refine (HP _).out.mono ?_; rintro e w1 ⟨rfl, g1⟩; replace G := Lib.hid (G.out.trans g1); clear g1) | (go_at_call 150; refine (HRep _).out.mono ?_; rintro e w1 ⟨rfl, g1⟩; replace G := Lib.hid (G.out.trans g1); clear g1) | (go_at_call 148; refine (HN2 _).out.mono ?_; rintro e w1 ⟨rfl, rfl⟩))
            go_ret2
            exact ⟨by rw [HI.out]; rfl, G.out⟩
  · have hI : Hid (fixedOf (nat s) places = (0, readE (nat s))) := by show _ = _; unfold fixedOf; rw [if_pos hr]
    have hr9 := readE_le (nat s)
    have r0 : ¬ (readE (nat s) : Int) = 0 := by omega
    have r1 : ((readE (nat s) : Int) == 0) = false := by simpa using r0
    clear hl hr
    generalize readE (nat s) = r at *
    go_enter Tryz.func132, Tryz.ntmps132
    go_wp2_with (first | (go_at_call 142; refine (HR _).out.mono ?_; rintro e w1 ⟨rfl, rfl⟩))
    go_ret2
    exact ⟨by rw [hI.out]; rfl, Grew.refl _⟩
end Go.Proofs.YtnhigfkhdmkoeaaGreatDoor

namespace Go.Proofs.YtnhigfkhdmkoeaaGreatDoor
open Go.RowKit
set_option linter.unusedVariables false

/- Sentences as plain lists of bytes: what the fields of each kind tell. -/
/-- What a sentence tells. -/
structure Told where
  kind : Nat := 0
  valid : Bool := false
  hasTime : Bool := false
  hasDate : Bool := false
  hasPos : Bool := false
  time : Nat × Nat × Nat × Bool := (0, 0, 0, false)
  day : Int := 0
  month : Int := 0
  year : Int := 0
  lat : Int := 0
  lon : Int := 0
  speed : Int := 0
  course : Int := 0
  quality : Int := 0
  sats : Int := 0
  mode : Int := 0
  height : Int := 0
  pdop : Int := 0
  hdop : Int := 0
  vdop : Int := 0
  parts : Int := 0
  part : Int := 0
/-- Its cells. -/
def Told.cells (F : Told) : Array Value := #[.int .u8 (F.kind : Nat), .bool F.valid, .bool F.hasTime, .bool F.hasDate, .bool F.hasPos, .int .i64 (F.time.1 : Nat), .int .i64 (F.time.2.1 : Nat), .int .i64 (F.time.2.2.1 : Nat), .bool F.time.2.2.2,
  .int .i64 F.day, .int .i64 F.month, .int .i64 F.year, .int .i64 F.lat, .int .i64 F.lon, .int .i64 F.speed, .int .i64 F.course, .int .i64 F.quality, .int .i64 F.sats, .int .i64 F.mode, .int .i64 F.height, .int .i64 F.pdop, .int .i64 F.hdop, .int .i64 F.vdop, .int .i64 F.parts, .int .i64 F.part]
def Told.value (F : Told) : Value := .agg F.cells

/-- May an error not be told of a field? -/
def badE (e : Nat) : Bool := e != 0 && e != 7
/-- A number that has no sign. -/
def unsBad (S : List Nat) (places : Int) : Bool := (decide (wd S 0 = 45)) || badE (fixedOf S places).2
/-- Minutes, in 1/100000. -/
def minOf (S : List Nat) : Int × Nat :=
  if pointOf S ≠ 2 then (0, 5)
  else if (intAns (S.take 2) 0 59).2 ≠ 0 then (0, (intAns (S.take 2) 0 59).2)
  else fixedOf S 5
/-- Degrees and minutes. -/
def angOf (S : List Nat) (d : Nat) (most : Int) : Int × Nat :=
  if S.length = 0 then (0, 7)
  else if (intAns (S.take (min d S.length)) 0 most).2 ≠ 0 then (0, 5)
  else if (minOf (S.drop (min d S.length))).2 ≠ 0 ∨ most * 6000000 < (intAns (S.take (min d S.length)) 0 most).1 * 6000000 + (minOf (S.drop (min d S.length))).1 then (0, 5)
  else ((intAns (S.take (min d S.length)) 0 most).1 * 6000000 + (minOf (S.drop (min d S.length))).1, 0)

/-- What was told so far, and whether a field may not be. -/
abbrev Rs := Told × Bool
section
variable (f : Nat → List Nat)
def sTime (at_ : Nat) (s : Rs) : Rs := ({ s.1 with time := (clockOf (f at_)).1, hasTime := (clockOf (f at_)).2 == 0 }, s.2 || badE (clockOf (f at_)).2)
def sDate (at_ : Nat) (s : Rs) : Rs := ({ s.1 with day := ((dateOf (f at_)).1.1 : Nat), month := ((dateOf (f at_)).1.2.1 : Nat), year := ((dateOf (f at_)).1.2.2 : Nat), hasDate := (dateOf (f at_)).2 == 0 }, s.2 || badE (dateOf (f at_)).2)
def sActive (at_ : Nat) (s : Rs) : Rs := ({ s.1 with valid := (oneOf (f at_) [65, 86]).2 == 0 && (oneOf (f at_) [65, 86]).1 == 0 }, s.2 || badE (oneOf (f at_) [65, 86]).2)
def sLetter (at_ : Nat) (O : List Nat) (s : Rs) : Rs := (s.1, s.2 || badE (oneOf (f at_) O).2)
def sNeed (at_ : Nat) (s : Rs) : Rs := (s.1, s.2 || (f at_).isEmpty)
def posHas (at_ : Nat) : Bool := (angOf (f at_) 2 90).2 == 0 && (oneOf (f (at_ + 1)) [78, 83]).2 == 0 && (angOf (f (at_ + 2)) 3 180).2 == 0 && (oneOf (f (at_ + 3)) [69, 87]).2 == 0
def sPos (at_ : Nat) (s : Rs) : Rs :=
  ({ s.1 with hasPos := posHas f at_, lat := if posHas f at_ then (angOf (f at_) 2 90).1 * (1 - 2 * ((oneOf (f (at_ + 1)) [78, 83]).1 : Nat)) else s.1.lat, lon := if posHas f at_ then (angOf (f (at_ + 2)) 3 180).1 * (1 - 2 * ((oneOf (f (at_ + 3)) [69, 87]).1 : Nat)) else s.1.lon },
   s.2 || badE (angOf (f at_) 2 90).2 || badE (oneOf (f (at_ + 1)) [78, 83]).2 || badE (angOf (f (at_ + 2)) 3 180).2 || badE (oneOf (f (at_ + 3)) [69, 87]).2)
def nOf (at_ : Nat) (l m : Int) : Int := (intAns (f at_) l m).1
def nBad (at_ : Nat) (l m : Int) : Bool := badE (intAns (f at_) l m).2
def nHas (at_ : Nat) (l m : Int) : Bool := (intAns (f at_) l m).2 == 0
def uOf (at_ : Nat) (p : Int) : Int := (fixedOf (f at_) p).1

def rmcOf (s : Rs) : Rs :=
  let s := sPos f 3 (sActive f 2 (sTime f 1 s))
  let s : Rs := ({ s.1 with speed := uOf f 7 3 }, s.2 || unsBad (f 7) 3)
  let s : Rs := ({ s.1 with course := uOf f 8 2 }, s.2 || unsBad (f 8) 2)
  sDate f 9 s
def ggaOf (s : Rs) : Rs :=
  let s := sPos f 2 (sTime f 1 s)
  let s : Rs := ({ s.1 with quality := nOf f 6 0 8, valid := decide (0 < nOf f 6 0 8) }, s.2 || nBad f 6 0 8)
  let s : Rs := ({ s.1 with sats := nOf f 7 0 99 }, s.2 || nBad f 7 0 99)
  let s : Rs := ({ s.1 with hdop := uOf f 8 2 }, s.2 || unsBad (f 8) 2)
  let s : Rs := ({ s.1 with height := uOf f 9 3 }, s.2 || badE (fixedOf (f 9) 3).2)
  sLetter f 10 [77] s
def gllOf (s : Rs) : Rs := sActive f 6 (sTime f 5 (sPos f 1 s))
/-- The satellites of the first k places of theirs. -/
def satsTo : Nat → Rs → Rs
  | 0, s => s
  | k + 1, s => ({ (satsTo k s).1 with sats := if nHas f (k + 3) 1 999 then (satsTo k s).1.sats + 1 else (satsTo k s).1.sats }, (satsTo k s).2 || nBad f (k + 3) 1 999)
def gsaOf (s : Rs) : Rs :=
  let s := sLetter f 1 [65, 77] s
  let s : Rs := ({ s.1 with mode := nOf f 2 1 3, valid := decide (1 < nOf f 2 1 3) }, s.2 || nBad f 2 1 3)
  let s := satsTo f 12 s
  let s : Rs := ({ s.1 with pdop := uOf f 15 2 }, s.2 || unsBad (f 15) 2)
  let s : Rs := ({ s.1 with hdop := uOf f 16 2 }, s.2 || unsBad (f 16) 2)
  ({ s.1 with vdop := uOf f 17 2 }, s.2 || unsBad (f 17) 2)
def zdaOf (s : Rs) : Rs :=
  let s := sTime f 1 s
  let s : Rs := ({ s.1 with day := nOf f 2 1 31 }, s.2 || nBad f 2 1 31)
  let s : Rs := ({ s.1 with month := nOf f 3 1 12 }, s.2 || nBad f 3 1 12)
  let s : Rs := ({ s.1 with year := nOf f 4 1980 2199 }, s.2 || nBad f 4 1980 2199)
  let s : Rs := (s.1, s.2 || (nHas f 4 1980 2199 && (f 4).length != 4))
  let s : Rs := ({ s.1 with hasDate := nHas f 2 1 31 && nHas f 3 1 12 && nHas f 4 1980 2199 }, s.2)
  ({ s.1 with valid := s.1.hasTime && s.1.hasDate }, s.2)
def vtgOf (s : Rs) : Rs :=
  let s : Rs := ({ s.1 with course := uOf f 1 2 }, s.2 || unsBad (f 1) 2)
  let s := sLetter f 2 [84] s
  let s : Rs := ({ s.1 with speed := uOf f 5 3 }, s.2 || unsBad (f 5) 3)
  let s := sLetter f 6 [78] s
  ({ s.1 with valid := true }, s.2)
def gsvOf (n : Nat) (s : Rs) : Rs :=
  let s : Rs := (s.1, s.2 || !(n % 4 == 3 || n % 4 == 0))
  let s : Rs := ({ s.1 with parts := nOf f 1 1 9 }, s.2 || nBad f 1 1 9)
  let s : Rs := ({ s.1 with part := nOf f 2 1 s.1.parts }, s.2 || nBad f 2 1 s.1.parts)
  let s : Rs := ({ s.1 with sats := nOf f 3 0 99 }, s.2 || nBad f 3 0 99)
  ({ s.1 with valid := true }, s.2)
/-- What a sentence of a kind tells: 1 RMC, 2 GGA, 3 GLL, 4 GSA, 5 ZDA, 6 VTG, 7 GSV. -/
def readOf (k n : Nat) : Rs :=
  if k = 1 then rmcOf f (sNeed f 2 ({ kind := 1 }, false))
  else if k = 2 then ggaOf f ({ kind := 2 }, false)
  else if k = 3 then gllOf f (sNeed f 6 ({ kind := 3 }, false))
  else if k = 4 then gsaOf f (sNeed f 2 (sNeed f 1 ({ kind := 4 }, false)))
  else if k = 5 then zdaOf f ({ kind := 5 }, false)
  else if k = 6 then vtgOf f ({ kind := 6 }, false)
  else gsvOf f n (sNeed f 3 (sNeed f 2 (sNeed f 1 ({ kind := 7 }, false))))
end
/-- A kind by its letters. -/
def lettersOf (S : List Nat) : Nat :=
  if S = [82, 77, 67] then 1 else if S = [71, 71, 65] then 2 else if S = [71, 76, 76] then 3 else if S = [71, 83, 65] then 4 else if S = [90, 68, 65] then 5 else if S = [86, 84, 71] then 6 else if S = [71, 83, 86] then 7 else 0
def capital (b : Nat) : Bool := decide (65 ≤ b ∧ b ≤ 90)
/-- A kind by a first field; 0: none. -/
def kindOfN (S : List Nat) : Nat := if S.length < 2 ∨ capital (wd S 0) = false ∨ capital (wd S 1) = false then 0 else lettersOf (S.drop 2)
def leastOf (k : Nat) : Nat := [0, 11, 14, 6, 17, 6, 8, 3].getD k 0
def mostOf (k : Nat) : Nat := [0, 13, 14, 7, 18, 6, 9, 20].getD k 0
/-- What fields tell. -/
def fixOf (fs : List (List Nat)) : Told × Nat :=
  if kindOfN (fs.getD 0 []) = 0 then ({}, 7)
  else if fs.length - 1 < leastOf (kindOfN (fs.getD 0 [])) then ({}, 4)
  else if mostOf (kindOfN (fs.getD 0 [])) < fs.length - 1 then ({}, 3)
  else if (readOf (fun j => fs.getD j []) (kindOfN (fs.getD 0 [])) (fs.length - 1)).2 then ({}, 5)
  else ((readOf (fun j => fs.getD j []) (kindOfN (fs.getD 0 [])) (fs.length - 1)).1, 0)
def fieldsOf (s : ByteArray) : List (List Nat) := (partsB s).map nat
/-- What a body tells. -/
def parseOf (s : ByteArray) : Told × Nat := fixOf (fieldsOf s)

theorem known_zda : parseOf ⟨#[71, 80, 90, 68, 65, 44, 49, 50, 51, 53, 49, 57, 44, 48, 52, 44, 48, 55, 44, 50, 48, 48, 50, 44, 48, 48, 44, 48, 48]⟩ = ({ kind := 5, valid := true, hasTime := true, hasDate := true, time := (12, 35, 19, true), day := 4, month := 7, year := 2002 }, 0) := by kernel_rfl
theorem known_gll : parseOf ⟨#[71, 80, 71, 76, 76, 44, 52, 57, 49, 54, 46, 52, 53, 44, 78, 44, 49, 50, 51, 49, 49, 46, 49, 50, 44, 87, 44, 50, 50, 53, 52, 52, 52, 44, 65]⟩ = ({ kind := 3, valid := true, hasTime := true, hasPos := true, time := (22, 54, 44, true), lat := 295645000, lon := -739112000 }, 0) := by kernel_rfl
theorem known_bad : parseOf ⟨#[71, 80, 90, 68, 65, 44, 50, 52, 54, 48, 48, 48, 44, 48, 52, 44, 48, 55, 44, 50, 48, 48, 50, 44, 48, 48, 44, 48, 48]⟩ = ({}, 5) := by kernel_rfl
/- The program's sentences: what a reader holds in memory, and what it gathers. -/
/-- A reader: fields, and what gathers. -/
def rv (S n c E : Nat) : Value := .agg #[.slice (some ⟨S, 0, none⟩) n c, .func (.func 50) #[] #[.pointer (some ⟨E, 0, none⟩)]]
/-- A reader's things in memory. -/
structure Rd (w : World) (S n c : Nat) (bs : List ByteArray) (E X : Nat) (s : Rs) : Prop where
  len : bs.length = n
  cap : n ≤ c
  hS : S < w.heap.size
  fields : ∀ (j : Nat) x, bs[j]? = some x → w.cell? ⟨S, j, none⟩ = some (.string x)
  small : ∀ (j : Nat) x, bs[j]? = some x → x.size ≤ 2000
  many : n ≤ 2001
  err : w.heap[E]? = some (.cells #[.int .i64 (if s.2 then 5 else 0)] 31)
  fix : w.heap[X]? = some (.cells s.1.cells 42)
  SE : S ≠ E
  SX : S ≠ X
  EX : E ≠ X
abbrev FarE (E : Nat) := Far (fun k => k = E)
section
variable {w w' : World} {S n c E X : Nat} {bs : List ByteArray} {s : Rs}
theorem Rd.hE (h : Rd w S n c bs E X s) : E < w.heap.size := (Array.getElem?_eq_some_iff.1 h.err).1
theorem Rd.hX (h : Rd w S n c bs E X s) : X < w.heap.size := (Array.getElem?_eq_some_iff.1 h.fix).1
theorem Rd.cellE (h : Rd w S n c bs E X s) : w.cell? ⟨E, 0, none⟩ = some (.int .i64 (if s.2 then 5 else 0)) := by simp [World.cell?, h.err]
theorem Rd.frozenE (h : Rd w S n c bs E X s) : w.frozen? ⟨E, 0, none⟩ = false := by simp [World.frozen?, h.err]
theorem Rd.cellX (h : Rd w S n c bs E X s) (k : Nat) (v : Value) (hk : s.1.cells[k]? = some v) : w.cell? ⟨X, k, none⟩ = some v := by simp [World.cell?, h.fix, hk]
theorem Rd.frozenX (h : Rd w S n c bs E X s) (k : Nat) : w.frozen? ⟨X, k, none⟩ = false := by simp [World.frozen?, h.fix]
theorem Rd.grew (h : Rd w S n c bs E X s) (g : Grew w w') : Rd w' S n c bs E X s :=
  ⟨h.len, h.cap, Nat.lt_of_lt_of_le h.hS g.size, fun j x hj => (g.cell (p := ⟨S, j, none⟩) h.hS).trans (h.fields j x hj), h.small, h.many, (g.below.block _ h.hE).trans h.err, (g.below.block _ h.hX).trans h.fix, h.SE, h.SX, h.EX⟩
/-- Behind calls that write what is gathered alone. -/
theorem Rd.far {b : Bool} (h : Rd w S n c bs E X s) (g : FarE E w w') (he : w'.heap[E]? = some (.cells #[.int .i64 (if b then 5 else 0)] 31)) : Rd w' S n c bs E X (s.1, b) :=
  ⟨h.len, h.cap, Nat.lt_of_lt_of_le h.hS g.size, fun j x hj => (g.cell (p := ⟨S, j, none⟩) h.hS h.SE).trans (h.fields j x hj), h.small, h.many, he, (g.block _ h.hX (fun e => h.EX e.symm)).trans h.fix, h.SE, h.SX, h.EX⟩
theorem heap_setCell_cells {w : World} {b k : Nat} {a : Array Value} {t : TypeId} (h : w.heap[b]? = some (.cells a t)) (v : Value) : (w.setCell ⟨b, k, none⟩ v).heap[b]? = some (.cells (a.setIfInBounds k v) t) := by
  show (w.heap.modify b _)[b]? = _
  rw [Array.getElem?_modify, if_pos rfl, h]
  rfl
theorem Rd.five (h : Rd w S n c bs E X s) : Rd (w.setCell ⟨E, 0, none⟩ (.int .i64 5)) S n c bs E X (s.1, true) :=
  h.far (Far.one w ⟨E, 0, none⟩ _) (by rw [heap_setCell_cells h.err]; rfl)
/-- A cell of what is told is written. -/
theorem Rd.put (h : Rd w S n c bs E X s) (k : Nat) (v : Value) (F : Told) (hF : s.1.cells.setIfInBounds k v = F.cells) : Rd (w.setCell ⟨X, k, none⟩ v) S n c bs E X (F, s.2) := by
  have g : Far (fun b => b = X) w (w.setCell ⟨X, k, none⟩ v) := Far.one w ⟨X, k, none⟩ v
  exact ⟨h.len, h.cap, Nat.lt_of_lt_of_le h.hS g.size, fun j x hj => (g.cell (p := ⟨S, j, none⟩) h.hS h.SX).trans (h.fields j x hj), h.small, h.many, (g.block _ h.hE h.EX).trans h.err, by rw [heap_setCell_cells h.fix, hF], h.SE, h.SX, h.EX⟩
theorem Rd.eta (h : Rd w S n c bs E X s) : Rd w S n c bs E X (s.1, s.2) := h
theorem FarE.grew (h : FarE E w w') {a : World} (g : Grew a w) (hE : a.heap.size ≤ E) : Grew a w' := Far.grew h g (fun k e => e ▸ hE)
/-- What a call of a reader has done. -/
def Rdt (w : World) (S n c : Nat) (bs : List ByteArray) (E X : Nat) (s : Rs) (v : Value) (e : Ending) (w' : World) : Prop := e = .returned v ∧ Rd w' S n c bs E X s ∧ FarE E w w'

theorem ifb_true : (if true = true then (5 : Int) else 0) = 5 := rfl
theorem r_gather (h : Rd w S n c bs E X s) (t : Nat) (ht : t < 1000) : Calls Tryz.prog 50 #[.int .i64 (t : Nat), .pointer (some ⟨E, 0, none⟩)] w (Rdt w S n c bs E X (s.1, s.2 || badE t) (.tuple #[])) := by
  have c0 := h.cellE
  have f0 := h.frozenE
  by_cases h0 : t = 0
  · subst h0
    have HH := Lib.hid h
    clear h
    go_enter Tryz.func50, Tryz.ntmps50
    go_wp2_with fail
    go_returns
    exact ⟨rfl, by rw [show badE 0 = false from rfl, Bool.or_false]; exact HH.out, Far.refl _ _⟩
  · by_cases h7 : t = 7
    · subst h7
      have HH := Lib.hid h
      clear h
      go_enter Tryz.func50, Tryz.ntmps50
      go_wp2_with fail
      go_returns
      exact ⟨rfl, by rw [show badE 7 = false from rfl, Bool.or_false]; exact HH.out, Far.refl _ _⟩
    · have hb : badE t = true := by simp [badE, h0, h7]
      have HH := Lib.hid h.five
      have z0 : ((t : Int) == 0) = false := by simpa using h0
      have z7 : ((t : Int) == 7) = false := by simp; omega
      have x0 : ((t : Int) != 0) = true := by simp; omega
      have x7 : ((t : Int) != 7) = true := by simp; omega
      have y0 : ¬ (t : Int) = 0 := by omega
      have y7 : ¬ (t : Int) = 7 := by omega
      clear h h0 h7
      go_enter Tryz.func50, Tryz.ntmps50
      go_wp2_with fail
      go_returns
      exact ⟨rfl, by rw [hb, Bool.or_true]; exact HH.out, Far.one w ⟨E, 0, none⟩ _⟩

/-- A reader's own copy. -/
theorem boxR (w : World) (S n c E : Nat) : ∃ W, w.alloc (.cells #[.slice (some ⟨S, 0, none⟩) n c, .func (.func 50) #[] #[.pointer (some ⟨E, 0, none⟩)]] 86) = W ∧ Grew w W ∧ w.heap.size < W.heap.size ∧ W.cell? ⟨w.heap.size, 0, none⟩ = some (.slice (some ⟨S, 0, none⟩) n c) ∧ W.cell? ⟨w.heap.size, 1, none⟩ = some (.func (.func 50) #[] #[.pointer (some ⟨E, 0, none⟩)]) :=
  ⟨_, rfl, (Grew.refl w).alloc _, by simp, by simp [go_sem], by simp [go_sem]⟩

set_option maxHeartbeats 1000000 in
theorem r_ask (h : Rd w S n c bs E X s) (b : Bool) : Calls Tryz.prog 73 #[rv S n c E, .bool b] w (Rdt w S n c bs E X (s.1, s.2 || !b) (.tuple #[])) := by
  obtain ⟨W, hW, gW, ltW, d0, d1⟩ := boxR w S n c E
  have HH := Lib.hid (h.grew gW)
  have HG := Lib.hid (r_gather (h.grew gW) 5 (by omega))
  unfold Rdt at HG
  have GW := Lib.hid gW
  clear h gW
  unfold rv
  cases b
  · go_enter Tryz.func73, Tryz.ntmps73
    go_upto_region 1 with fail
    go_wp2_with (go_at_call 50; refine HG.out.mono ?_; rintro e w1 ⟨rfl, h1, g1⟩)
    go_returns
    exact ⟨rfl, h1, (Far.of_grew GW.out).trans g1⟩
  · go_enter Tryz.func73, Tryz.ntmps73
    go_upto_region 1 with fail
    go_wp2_with fail
    go_returns
    exact ⟨rfl, by rw [Bool.not_true, Bool.or_false]; exact HH.out, Far.of_grew GW.out⟩

set_option maxHeartbeats 1000000 in
theorem r_there (h : Rd w S n c bs E X s) (t : Nat) (ht : t < 1000) : Calls Tryz.prog 126 #[rv S n c E, .int .i64 (t : Nat)] w (Rdt w S n c bs E X (s.1, s.2 || badE t) (.bool (t == 0))) := by
  obtain ⟨W, hW, gW, ltW, d0, d1⟩ := boxR w S n c E
  have HG := Lib.hid (r_gather (h.grew gW) t ht)
  unfold Rdt at HG
  have GW := Lib.hid gW
  have e0 : ((t : Int) == 0) = (t == 0) := by
    rw [Bool.eq_iff_iff, beq_iff_eq, beq_iff_eq]; omega
  have E0 := Lib.hid e0
  clear h gW e0
  unfold rv
  go_enter Tryz.func126, Tryz.ntmps126
  go_upto_region 1 with fail
  go_wp2_with (go_at_call 50; refine HG.out.mono ?_; rintro e w1 ⟨rfl, h1, g1⟩)
  go_ret
  refine ⟨?_, h1, (Far.of_grew GW.out).trans g1⟩
  first | (rw [← E0.out]; rfl) | (rw [← E0.out]; simp)
end
/- The program's sentences: a reader's fields: times, dates, numbers, letters. -/
theorem int_err (S : List Nat) (l m : Int) : (intAns S l m).2 < 1000 := by
  have := readE_le S
  unfold intAns
  repeat' split
  all_goals simp
  all_goals omega
theorem fixed_err (S : List Nat) (p : Int) : (fixedOf S p).2 < 1000 := by
  have := readE_le S
  unfold fixedOf
  repeat' split
  all_goals simp
  all_goals omega
theorem clock_err (S : List Nat) : (clockOf S).2 < 1000 := by
  have := readE_le S
  unfold clockOf
  repeat' split
  all_goals simp
  all_goals omega
theorem date_err (S : List Nat) : (dateOf S).2 < 1000 := by
  have := readE_le S
  unfold dateOf
  repeat' split
  all_goals simp
  all_goals omega
theorem one_err (S O : List Nat) : (oneOf S O).2 < 1000 := by
  have := readE_le S
  unfold oneOf
  repeat' split
  all_goals simp
  all_goals omega
theorem one_place (S O : List Nat) : (oneOf S O).1 ≤ O.length := by
  unfold oneOf
  repeat' split
  all_goals simp
  omega
section
variable {w w' : World} {S n c E X : Nat} {bs : List ByteArray} {s : Rs}
theorem Rd.at_ (h : Rd w S n c bs E X s) {j : Nat} {x : ByteArray} (hx : bs[j]? = some x) : (j : Int) < n ∧ (0 : Int) ≤ j ∧ (j : Int) < c ∧ x.size ≤ 2000 := by
  have h1 := (List.getElem?_eq_some_iff.1 hx).1
  have h2 := h.len
  have h3 := h.cap
  exact ⟨by omega, by omega, by omega, h.small j x hx⟩

set_option maxHeartbeats 1000000 in
theorem r_number (h : Rd w S n c bs E X s) (j : Nat) (x : ByteArray) (hx : bs[j]? = some x) (l m : Int) (h1 : -9223372036854775808 ≤ l ∧ l ≤ 9223372036854775807) (h2 : -9223372036854775808 ≤ m ∧ m ≤ 9223372036854775807) :
    Calls Tryz.prog 116 #[rv S n c E, .int .i64 (j : Nat), .int .i64 l, .int .i64 m] w
      (Rdt w S n c bs E X (s.1, s.2 || badE (intAns (nat x) l m).2) (.tuple #[.int .i64 (intAns (nat x) l m).1, .bool ((intAns (nat x) l m).2 == 0)])) := by
  obtain ⟨W, hW, gW, ltW, d0, d1⟩ := boxR w S n c E
  obtain ⟨j0, j1, j2, hs⟩ := h.at_ hx
  have hc := (h.grew gW).fields j x hx
  have HI := fun w => Lib.hid (fld_Int x l m w hs h1 h2)
  have HT := fun w' (g : Grew w w') => Lib.hid (r_there (h.grew g) _ (int_err (nat x) l m))
  unfold Rdt at HT
  have G := Lib.hid gW
  clear h gW
  generalize intAns (nat x) l m = r at *
  unfold rv at HT ⊢
  go_enter Tryz.func116, Tryz.ntmps116
  go_upto_region 1 with fail
  go_wp2_with (first | (go_at_call 131; refine (HI _).out.mono ?_; rintro e w1 ⟨rfl, g1⟩; have e0 := (g1.cell (p := ⟨w.heap.size, 0, none⟩) ltW).trans d0; have e1 := (g1.cell (p := ⟨w.heap.size, 1, none⟩) ltW).trans d1; replace G := Lib.hid (G.out.trans g1); clear g1) | (go_at_call 126; refine (HT _ G.out).out.mono ?_; rintro e w2 ⟨rfl, hh, gg⟩))
  go_ret2
  exact ⟨rfl, hh, (Far.of_grew G.out).trans gg⟩
set_option maxHeartbeats 1000000 in
theorem r_letter (h : Rd w S n c bs E X s) (j : Nat) (x : ByteArray) (hx : bs[j]? = some x) (o : ByteArray) (ho : o.size ≤ 2000) :
    Calls Tryz.prog 118 #[rv S n c E, .int .i64 (j : Nat), .string o] w
      (Rdt w S n c bs E X (s.1, s.2 || badE (oneOf (nat x) (nat o)).2) (.tuple #[.int .i64 ((oneOf (nat x) (nat o)).1 : Nat), .bool ((oneOf (nat x) (nat o)).2 == 0)])) := by
  obtain ⟨W, hW, gW, ltW, d0, d1⟩ := boxR w S n c E
  obtain ⟨j0, j1, j2, hs⟩ := h.at_ hx
  have hc := (h.grew gW).fields j x hx
  have HI := fun w => Lib.hid (fld_One x o w hs ho)
  have HT := fun w' (g : Grew w w') => Lib.hid (r_there (h.grew g) _ (one_err (nat x) (nat o)))
  unfold Rdt at HT
  have G := Lib.hid gW
  clear h gW
  generalize oneOf (nat x) (nat o) = r at *
  unfold rv at HT ⊢
  go_enter Tryz.func118, Tryz.ntmps118
  go_upto_region 1 with fail
  go_wp2_with (first | (go_at_call 133; refine (HI _).out.mono ?_; rintro e w1 ⟨rfl, g1⟩; have e0 := (g1.cell (p := ⟨w.heap.size, 0, none⟩) ltW).trans d0; have e1 := (g1.cell (p := ⟨w.heap.size, 1, none⟩) ltW).trans d1; replace G := Lib.hid (G.out.trans g1); clear g1) | (go_at_call 126; refine (HT _ G.out).out.mono ?_; rintro e w2 ⟨rfl, hh, gg⟩))
  go_ret2
  exact ⟨rfl, hh, (Far.of_grew G.out).trans gg⟩
set_option maxHeartbeats 1000000 in
theorem r_fixed (h : Rd w S n c bs E X s) (j : Nat) (x : ByteArray) (hx : bs[j]? = some x) (p : Int) (hp : -9223372036854775808 ≤ p ∧ p ≤ 9223372036854775807) :
    Calls Tryz.prog 117 #[rv S n c E, .int .i64 (j : Nat), .int .i64 p] w
      (Rdt w S n c bs E X (s.1, s.2 || badE (fixedOf (nat x) p).2) (.int .i64 (fixedOf (nat x) p).1)) := by
  obtain ⟨W, hW, gW, ltW, d0, d1⟩ := boxR w S n c E
  obtain ⟨j0, j1, j2, hs⟩ := h.at_ hx
  have hc := (h.grew gW).fields j x hx
  have HI := fun w => Lib.hid (fld_Fixed x p w hs hp)
  have HT := fun w' (g : Grew w w') => Lib.hid (r_gather (h.grew g) _ (fixed_err (nat x) p))
  unfold Rdt at HT
  have G := Lib.hid gW
  clear h gW
  generalize fixedOf (nat x) p = r at *
  unfold rv
  go_enter Tryz.func117, Tryz.ntmps117
  go_upto_region 1 with fail
  go_wp2_with (first | (go_at_call 132; refine (HI _).out.mono ?_; rintro e w1 ⟨rfl, g1⟩; have e0 := (g1.cell (p := ⟨w.heap.size, 0, none⟩) ltW).trans d0; have e1 := (g1.cell (p := ⟨w.heap.size, 1, none⟩) ltW).trans d1; replace G := Lib.hid (G.out.trans g1); clear g1) | (go_at_call 50; refine (HT _ G.out).out.mono ?_; rintro e w2 ⟨rfl, hh, gg⟩))
  go_ret
  exact ⟨rfl, hh, (Far.of_grew G.out).trans gg⟩
set_option maxHeartbeats 1000000 in
theorem r_date (h : Rd w S n c bs E X s) (j : Nat) (x : ByteArray) (hx : bs[j]? = some x) :
    Calls Tryz.prog 115 #[rv S n c E, .int .i64 (j : Nat)] w
      (Rdt w S n c bs E X (s.1, s.2 || badE (dateOf (nat x)).2) (.tuple #[.int .i64 ((dateOf (nat x)).1.1 : Nat), .int .i64 ((dateOf (nat x)).1.2.1 : Nat), .int .i64 ((dateOf (nat x)).1.2.2 : Nat), .bool ((dateOf (nat x)).2 == 0)])) := by
  obtain ⟨W, hW, gW, ltW, d0, d1⟩ := boxR w S n c E
  obtain ⟨j0, j1, j2, hs⟩ := h.at_ hx
  have hc := (h.grew gW).fields j x hx
  have HI := fun w => Lib.hid (fld_Date x w hs)
  unfold dateVal at HI
  have HT := fun w' (g : Grew w w') => Lib.hid (r_there (h.grew g) _ (date_err (nat x)))
  unfold Rdt at HT
  have G := Lib.hid gW
  clear h gW
  generalize dateOf (nat x) = r at *
  obtain ⟨⟨r1, r2, r3⟩, r4⟩ := r
  unfold rv at HT ⊢
  go_enter Tryz.func115, Tryz.ntmps115
  go_upto_region 1 with fail
  go_wp2_with (first | (go_at_call 130; refine (HI _).out.mono ?_; rintro e w1 ⟨rfl, g1⟩; have e0 := (g1.cell (p := ⟨w.heap.size, 0, none⟩) ltW).trans d0; have e1 := (g1.cell (p := ⟨w.heap.size, 1, none⟩) ltW).trans d1; replace G := Lib.hid (G.out.trans g1); clear g1) | (go_at_call 126; refine (HT _ G.out).out.mono ?_; rintro e w2 ⟨rfl, hh, gg⟩))
  go_returns
  exact ⟨rfl, hh, (Far.of_grew G.out).trans gg⟩
set_option maxHeartbeats 1000000 in
theorem r_active (h : Rd w S n c bs E X s) (j : Nat) (x : ByteArray) (hx : bs[j]? = some x) :
    Calls Tryz.prog 112 #[rv S n c E, .int .i64 (j : Nat)] w
      (Rdt w S n c bs E X (s.1, s.2 || badE (oneOf (nat x) [65, 86]).2) (.bool ((oneOf (nat x) [65, 86]).2 == 0 && (oneOf (nat x) [65, 86]).1 == 0))) := by
  obtain ⟨W, hW, gW, ltW, d0, d1⟩ := boxR w S n c E
  have HT := Lib.hid (r_letter (h.grew gW) j x hx ⟨#[65, 86]⟩ (by decide))
  rw [show nat ⟨#[65, 86]⟩ = [65, 86] from rfl] at HT
  unfold Rdt at HT
  have G := Lib.hid gW
  clear h gW hx
  generalize oneOf (nat x) [65, 86] = r at *
  obtain ⟨p, q⟩ := r
  have e0 : ((p : Int) == 0) = (p == 0) := by
    rw [Bool.eq_iff_iff, beq_iff_eq, beq_iff_eq]; omega
  have E0 := Lib.hid e0
  clear e0
  unfold rv at HT ⊢
  go_enter Tryz.func112, Tryz.ntmps112
  go_upto_region 1 with fail
  cases hq : (q == 0)
  all_goals
    rw [hq] at HT
    have HQ := Lib.hid hq
    clear hq
    go_wp2_with (go_at_call 118; refine HT.out.mono ?_; rintro e w2 ⟨rfl, hh, gg⟩)
    go_ret
    exact ⟨by first | (rw [HQ.out, Bool.false_and]; rfl) | (rw [HQ.out, Bool.true_and, ← E0.out]; rfl), hh, (Far.of_grew G.out).trans gg⟩
set_option maxHeartbeats 1000000 in
theorem r_sign (h : Rd w S n c bs E X s) (j : Nat) (x : ByteArray) (hx : bs[j]? = some x) (o : ByteArray) (ho : o.size ≤ 2000) :
    Calls Tryz.prog 128 #[rv S n c E, .int .i64 (j : Nat), .string o] w
      (Rdt w S n c bs E X (s.1, s.2 || badE (oneOf (nat x) (nat o)).2) (.tuple #[.int .i64 (1 - 2 * ((oneOf (nat x) (nat o)).1 : Nat)), .bool ((oneOf (nat x) (nat o)).2 == 0)])) := by
  obtain ⟨W, hW, gW, ltW, d0, d1⟩ := boxR w S n c E
  have HT := Lib.hid (r_letter (h.grew gW) j x hx o ho)
  have hp := one_place (nat x) (nat o)
  rw [nat_length] at hp
  unfold Rdt at HT
  have G := Lib.hid gW
  clear h gW hx
  generalize oneOf (nat x) (nat o) = r at *
  obtain ⟨p, q⟩ := r
  have m1 : IntKind.i64.wrap (2 * (p : Int)) = 2 * (p : Int) := IntWalk.i64_in _ (by simp only at hp; omega)
  have m2 : IntKind.i64.wrap (1 - 2 * (p : Int)) = 1 - 2 * (p : Int) := IntWalk.i64_in _ (by simp only at hp; omega)
  unfold rv at HT ⊢
  go_enter Tryz.func128, Tryz.ntmps128
  go_upto_region 1 with fail
  go_wp2_with (go_at_call 118; refine HT.out.mono ?_; rintro e w2 ⟨rfl, hh, gg⟩)
  go_ret2
  exact ⟨rfl, hh, (Far.of_grew G.out).trans gg⟩
end
/- The program's sentences: a reader's times, numbers without a sign, angles. -/
/-- A time's variable. -/
structure DayAt (w : World) (b : Nat) (t : Nat × Nat × Nat × Bool) : Prop where
  lt : b < w.heap.size
  h : w.heap[b]? = some (.cells #[.int .i64 (t.1 : Nat), .int .i64 (t.2.1 : Nat), .int .i64 (t.2.2.1 : Nat), .bool t.2.2.2] 40)
theorem prefix_minus (s : ByteArray) : Lib.hasPrefix s.data.toList [45] = decide (wd (nat s) 0 = 45) := by
  unfold nat
  cases h : s.data.toList with
  | nil => rfl
  | cons a l =>
    rw [List.map_cons]
    show Lib.hasPrefix (a :: l) [45] = decide (a.toNat = 45)
    simp only [Lib.hasPrefix, List.isPrefixOf, Bool.and_true]
    rw [Bool.eq_iff_iff, beq_iff_eq, decide_eq_true_eq]
    exact ⟨fun e => by rw [← e]; rfl, fun e => (UInt8.toNat_inj.1 (by rw [e]; rfl)).symm⟩
section
variable {w w' : World} {S n c E X : Nat} {bs : List ByteArray} {s : Rs}
set_option maxHeartbeats 1000000 in
theorem r_unsigned (h : Rd w S n c bs E X s) (j : Nat) (x : ByteArray) (hx : bs[j]? = some x) (p : Int) (hp : -9223372036854775808 ≤ p ∧ p ≤ 9223372036854775807) :
    Calls Tryz.prog 114 #[rv S n c E, .int .i64 (j : Nat), .int .i64 p] w
      (Rdt w S n c bs E X (s.1, s.2 || unsBad (nat x) p) (.int .i64 (fixedOf (nat x) p).1)) := by
  obtain ⟨W, hW, gW, ltW, d0, d1⟩ := boxR w S n c E
  obtain ⟨j0, j1, j2, hs⟩ := h.at_ hx
  have hc := (h.grew gW).fields j x hx
  have HP : ∀ w, Hid _ := fun w => Lib.hid (Tryz.strings_HasPrefix x ⟨#[45]⟩ w)
  rw [show (⟨#[45]⟩ : ByteArray).data.toList = [45] from rfl, prefix_minus] at HP
  have HA := fun w' (g : Grew w w') b => Lib.hid (r_ask (h.grew g) b)
  have HF := fun w' s' (h' : Rd w' S n c bs E X s') => Lib.hid (r_fixed h' j x hx p hp)
  unfold Rdt at HA HF
  have hSE := h.SE
  have hSl := h.hS
  have hEl := h.hE
  have KS : ∀ w', FarE E W w' → w'.cell? ⟨w.heap.size, 0, none⟩ = some (.slice (some ⟨S, 0, none⟩) n c) ∧ w'.cell? ⟨w.heap.size, 1, none⟩ = some (.func (.func 50) #[] #[.pointer (some ⟨E, 0, none⟩)]) ∧ w'.cell? ⟨S, j, none⟩ = some (.string x) := fun w' g =>
    ⟨(g.cell (p := ⟨w.heap.size, 0, none⟩) ltW (fun e => by simp only at e; omega)).trans d0, (g.cell (p := ⟨w.heap.size, 1, none⟩) ltW (fun e => by simp only at e; omega)).trans d1, (g.cell (p := ⟨S, j, none⟩) (Nat.lt_of_lt_of_le hSl gW.size) hSE).trans hc⟩
  have GW := Lib.hid gW
  have G : FarE E W W.drew := Far.of_grew (Grew.refl W).drew
  have HU := Lib.hid (show unsBad (nat x) p = (decide (wd (nat x) 0 = 45) || badE (fixedOf (nat x) p).2) from rfl)
  clear h hx hc
  generalize fixedOf (nat x) p = r at *
  generalize decide (wd (nat x) 0 = 45) = b at *
  unfold rv at HF HA ⊢
  go_enter Tryz.func114, Tryz.ntmps114
  go_upto_region 1 with fail
  go_region_held3 (fun w' => w'.cell? ⟨w.heap.size, 0, none⟩ = some (.slice (some ⟨S, 0, none⟩) n c) ∧ w'.cell? ⟨w.heap.size, 1, none⟩ = some (.func (.func 50) #[] #[.pointer (some ⟨E, 0, none⟩)]) ∧ w'.cell? ⟨S, j, none⟩ = some (.string x)) (exact KS _ G)
    (first | (go_at_call 129; refine (HP _).out.mono ?_; rintro e w1 ⟨rfl, rfl⟩) | (go_at_call 73; refine (HA _ (GW.out.trans (Grew.refl W).drew) _).out.mono ?_; rintro e w1 ⟨rfl, hh, gg⟩; replace G := G.trans gg))
  rw [Bool.not_not] at hh
  obtain ⟨k0, k1, _⟩ := KS _ G
  have HF2 := HF _ _ hh
  clear HF HA HP KS hh
  go_wp2_with (go_at_call 117; refine HF2.out.mono ?_; rintro e w2 ⟨rfl, h2, g2⟩)
  go_ret
  exact ⟨rfl, by rw [HU.out, ← Bool.or_assoc]; exact h2, ((Far.of_grew GW.out).trans G).trans g2⟩
end
/- The program's sentences: a reader's times. -/
theorem FourAt.far {F : Nat → Prop} {w w' : World} {b : Nat} {x0 x1 x2 x3 : Value} (h : FourAt w b x0 x1 x2 x3) (g : Far F w w') (hb : ¬ F b) : FourAt w' b x0 x1 x2 x3 :=
  ⟨Nat.lt_of_lt_of_le h.lt g.size, (g.cell (p := ⟨b, 0, none⟩) h.lt hb).trans h.c0, (g.cell (p := ⟨b, 1, none⟩) h.lt hb).trans h.c1, (g.cell (p := ⟨b, 2, none⟩) h.lt hb).trans h.c2, (g.cell (p := ⟨b, 3, none⟩) h.lt hb).trans h.c3,
   (g.frozen (p := ⟨b, 0, none⟩) h.lt hb).trans h.f0, (g.frozen (p := ⟨b, 1, none⟩) h.lt hb).trans h.f1, (g.frozen (p := ⟨b, 2, none⟩) h.lt hb).trans h.f2, (g.frozen (p := ⟨b, 3, none⟩) h.lt hb).trans h.f3⟩
theorem newFour9 (w : World) (x0 x1 x2 x3 : Value) (E : TypeId) : ∃ W, w.alloc (.cells #[x0, x1, x2, x3] E) = W ∧ Grew w W ∧ FourAt W w.heap.size x0 x1 x2 x3 ∧ w.heap.size < W.heap.size :=
  ⟨_, rfl, (Grew.refl w).alloc _, FourAt.new w _ _ _ _ _, by simp⟩
theorem far_four (w : World) (b : Nat) (y0 y1 y2 y3 : Value) : Far (fun k => k = b) w (fourSet w b y0 y1 y2 y3) :=
  Far.setCell (F := fun k => k = b) (Far.setCell (F := fun k => k = b) (Far.setCell (F := fun k => k = b) (Far.one w ⟨b, 0, none⟩ y0) (p := ⟨b, 1, none⟩) rfl y1) (p := ⟨b, 2, none⟩) rfl y2) (p := ⟨b, 3, none⟩) rfl y3
section
variable {w w' : World} {S n c E X : Nat} {bs : List ByteArray} {s : Rs}
/-- A block that is none of a reader's is written. -/
theorem Rd.off (h : Rd w S n c bs E X s) {b : Nat} (g : Far (fun k => k = b) w w') (h1 : S ≠ b) (h2 : E ≠ b) (h3 : X ≠ b) : Rd w' S n c bs E X s :=
  ⟨h.len, h.cap, Nat.lt_of_lt_of_le h.hS g.size, fun j x hj => (g.cell (p := ⟨S, j, none⟩) h.hS h1).trans (h.fields j x hj), h.small, h.many, (g.block _ h.hE h2).trans h.err, (g.block _ h.hX h3).trans h.fix, h.SE, h.SX, h.EX⟩
set_option maxHeartbeats 1000000 in
theorem r_clock (h : Rd w S n c bs E X s) (j : Nat) (x : ByteArray) (hx : bs[j]? = some x) :
    Calls Tryz.prog 111 #[rv S n c E, .int .i64 (j : Nat)] w
      (Rdt w S n c bs E X (s.1, s.2 || badE (clockOf (nat x)).2) (.tuple #[.agg #[.int .i64 ((clockOf (nat x)).1.1 : Nat), .int .i64 ((clockOf (nat x)).1.2.1 : Nat), .int .i64 ((clockOf (nat x)).1.2.2.1 : Nat), .bool (clockOf (nat x)).1.2.2.2], .bool ((clockOf (nat x)).2 == 0)])) := by
  obtain ⟨W, hW, gW, ltW, d0, d1⟩ := boxR w S n c E
  obtain ⟨j0, j1, j2, hs⟩ := h.at_ hx
  obtain ⟨V, hV, gV, dV⟩ := newDay W 40
  have hc := (h.grew (gW.trans gV)).fields j x hx
  have e0 := (gV.cell (p := ⟨w.heap.size, 0, none⟩) ltW).trans d0
  have e1 := (gV.cell (p := ⟨w.heap.size, 1, none⟩) ltW).trans d1
  have HI := fun w => Lib.hid (fld_Clock x w hs)
  unfold dayVal at HI
  have HT := fun w' (g : Grew w w') => Lib.hid (r_there (h.grew g) _ (clock_err (nat x)))
  unfold Rdt at HT
  have G0 := Lib.hid (gW.trans gV)
  clear gW gV d0 d1
  have hSl := h.hS
  have hEl := h.hE
  have hXl := h.hX
  clear h hx
  generalize clockOf (nat x) = r at *
  obtain ⟨⟨r1, r2, r3, r4⟩, r5⟩ := r
  unfold rv at HT ⊢
  go_enter Tryz.func111, Tryz.ntmps111
  go_upto_region 1 with fail
  go_upto_region 2 with (go_at_call 125; refine (HI _).out.mono ?_; rintro e w1 ⟨rfl, g1⟩)
  obtain ⟨U, hU, gU, dU, ltU⟩ := newFour9 w1 (.int .i64 r1) (.int .i64 r2) (.int .i64 r3) (.bool r4) 40
  rw [hU]
  have hwV : W.heap.size < V.heap.size := dV.lt
  have GVU := g1.trans gU
  have hVs := g1.size
  have KS : ∀ w', Far (fun k => k = E ∨ k = W.heap.size) U w' → (w'.cell? ⟨w.heap.size, 0, none⟩ = some (.slice (some ⟨S, 0, none⟩) n c) ∧ w'.cell? ⟨w.heap.size, 1, none⟩ = some (.func (.func 50) #[] #[.pointer (some ⟨E, 0, none⟩)])) ∧
      (w'.cell? ⟨w1.heap.size, 0, none⟩ = some (.int .i64 r1) ∧ w'.cell? ⟨w1.heap.size, 1, none⟩ = some (.int .i64 r2) ∧ w'.cell? ⟨w1.heap.size, 2, none⟩ = some (.int .i64 r3) ∧ w'.cell? ⟨w1.heap.size, 3, none⟩ = some (.bool r4)) := fun w' g => by
    have l1 : w.heap.size < U.heap.size := by have := GVU.size; omega
    have q := dU.far g (fun e => by have e' : w1.heap.size = E ∨ w1.heap.size = W.heap.size := e; omega)
    exact ⟨⟨((g.cell (p := ⟨w.heap.size, 0, none⟩) l1 (fun e => by simp only at e; omega)).trans (GVU.cell (p := ⟨w.heap.size, 0, none⟩) (by simp only; omega))).trans e0, ((g.cell (p := ⟨w.heap.size, 1, none⟩) l1 (fun e => by simp only at e; omega)).trans (GVU.cell (p := ⟨w.heap.size, 1, none⟩) (by simp only; omega))).trans e1⟩, q.c0, q.c1, q.c2, q.c3⟩
  have KR : ∀ w', FarE E U w' → Hid (FourAt w' W.heap.size (.int .i64 0) (.int .i64 0) (.int .i64 0) (.bool false)) := fun w' g => Lib.hid ((dV.grew GVU).far g (fun e => by have e' : W.heap.size = E := e; omega))
  have G : Far (fun k => k = E ∨ k = W.heap.size) U U.drew := Far.of_grew (Grew.refl U).drew
  have GU := Lib.hid (G0.out.trans GVU)
  clear hU gU dU GVU g1 HI dV e0 e1 hc
  go_region_held3 (fun w' => (w'.cell? ⟨w.heap.size, 0, none⟩ = some (.slice (some ⟨S, 0, none⟩) n c) ∧ w'.cell? ⟨w.heap.size, 1, none⟩ = some (.func (.func 50) #[] #[.pointer (some ⟨E, 0, none⟩)])) ∧
      (w'.cell? ⟨w1.heap.size, 0, none⟩ = some (.int .i64 r1) ∧ w'.cell? ⟨w1.heap.size, 1, none⟩ = some (.int .i64 r2) ∧ w'.cell? ⟨w1.heap.size, 2, none⟩ = some (.int .i64 r3) ∧ w'.cell? ⟨w1.heap.size, 3, none⟩ = some (.bool r4)))
    (first | exact KS _ G | exact KS _ (G.trans ((far_four _ W.heap.size (.int .i64 r1) (.int .i64 r2) (.int .i64 r3) (.bool r4)).mono (fun k _ hk => .inr hk))))
    (first | (go_at_call 126; refine (HT _ (GU.out.trans (Grew.refl U).drew)).out.mono ?_; rintro e w2 ⟨rfl, hh, gg⟩; replace G := G.trans (gg.mono (fun k _ hk => .inl hk)); obtain ⟨_, a0, a1, a2, a3, b0, b1, b2, b3⟩ := (KR _ ((Far.of_grew (Grew.refl U).drew).trans gg)).out))
  go_wp2_with fail
  refine bodyPost_ret (by simp [results, Tryz.results111, go_sem, a0, a1, a2, a3]; try rfl) rfl ?_
  have FW := far_four w2 W.heap.size (.int .i64 r1) (.int .i64 r2) (.int .i64 r3) (.bool r4)
  exact ⟨rfl, hh.off FW (by omega) (by omega) (by omega), (((Far.of_grew GU.out).trans (Far.of_grew (Grew.refl U).drew)).trans gg).beyond FW (fun k hk => .inr (by have hk' : k = W.heap.size := hk; omega))⟩
end
end Go.Proofs.YtnhigfkhdmkoeaaGreatDoor

namespace Go.Proofs.YtnhigfkhdmkoeaaGreatDoor
open Go.RowKit
set_option linter.unusedVariables false

/-- Of a sentence. -/
def nmeaM (r : Told × Nat) : Option Mg :=
  if r.2 ≠ 0 then none
  else if r.1.kind = 1 then (if (r.1.valid && r.1.hasTime && r.1.hasDate && r.1.time.2.2.2) = true then utcM 1 100 (r.1.year + 2000) r.1.month r.1.day (r.1.time.1 : Nat) (r.1.time.2.1 : Nat) (r.1.time.2.2.1 : Nat) else none)
  else if r.1.kind = 5 then (if (r.1.valid && r.1.time.2.2.2) = true then utcM 2 0 r.1.year r.1.month r.1.day (r.1.time.1 : Nat) (r.1.time.2.1 : Nat) (r.1.time.2.2.1 : Nat) else none)
  else none
/-- Of a UBX message of a class and an id (256 times the class, and the id). -/
def ubxM (c : Nat) (r : List Int × Nat) : Option Mg :=
  if r.2 ≠ 0 then none
  else if c = 263 then (if zi r.1 7 % 8 = 7 ∧ (3 ≤ zi r.1 10 ∧ zi r.1 10 ≤ 5) ∧ zi r.1 11 % 2 = 1 ∧ zi r.1 9 = 0 then utcM 3 0 (zi r.1 1) (zi r.1 2) (zi r.1 3) (zi r.1 4) (zi r.1 5) (zi r.1 6) else none)
  else if c = 288 then (if zi r.1 4 % 4 = 3 ∧ zi r.1 1 = 0 then gpsM 4 0 false (zi r.1 2) (zi r.1 0) else none)
  else if c = 289 then (if 4 ≤ zi r.1 9 % 8 ∧ zi r.1 2 = 0 then utcM 5 0 (zi r.1 3) (zi r.1 4) (zi r.1 5) (zi r.1 6) (zi r.1 7) (zi r.1 8) else none)
  else if c = 3329 then (if zi r.1 4 % 2 = 0 ∧ zi r.1 1 = 0 then gpsM 6 0 true (zi r.1 3) (zi r.1 0) else none)
  else none
/-- Of a SiRF message. -/
def srfM (r : Nat × List Int × Nat) : Option Mg :=
  if r.2.2 ≠ 0 then none
  else if r.1 = 2 then (if 3 ≤ zi r.2.1 6 % 8 ∧ zi r.2.1 6 % 8 ≤ 6 then gpsM 7 1024 false (zi r.2.1 9 % 1024) (10 * zi r.2.1 10) else none)
  else if r.1 = 4 then (if 4 ≤ zi r.2.1 2 then gpsM 8 1024 false (zi r.2.1 0 % 1024) (10 * zi r.2.1 1) else none)
  else if r.1 = 7 then (if 4 ≤ zi r.2.1 2 then gpsM 9 0 false (zi r.2.1 0) (10 * zi r.2.1 1) else none)
  else if r.1 = 41 then (if zi r.2.1 0 = 0 ∧ zi r.2.1 9 % 1000 = 0 then utcM 10 0 (zi r.2.1 4) (zi r.2.1 5) (zi r.2.1 6) (zi r.2.1 7) (zi r.2.1 8) (zi r.2.1 9 / 1000) else none)
  else if r.1 = 52 then (if zi r.2.1 8 % 4 = 3 then utcM 11 0 (zi r.2.1 5) (zi r.2.1 4) (zi r.2.1 3) (zi r.2.1 0) (zi r.2.1 1) (zi r.2.1 2) else none)
  else none
/-- Of a frame: 1 a sentence, 2 UBX, 3 SiRF. -/
def msgOf (k : Nat) (S : List Nat) : Option Mg :=
  if k = 1 then nmeaM (parseOf (strOf S))
  else if k = 2 then (if S.length < 2 then none else ubxM (wd S 0 * 256 + wd S 1) (ubxDec (wd S 0 * 256 + wd S 1) (S.drop 2)))
  else if k = 3 then srfM (srfDec S)
  else none
end Go.Proofs.YtnhigfkhdmkoeaaGreatDoor


/-
  The program's fields: two digits, and two, and two; dates; one of some bytes.
  The program's fields: dates; one of some bytes.
  The program's fields: times of day.
  The program's fields: numbers with places, as plain lists.
  The program's fields: numbers with places.
  The program's fields: numbers with places, the walk.
-/
import Derived.Test.YtlcmjedbdopglaaGreatDoorFlpE
import Derived.Test.YtlcmjedbdopglaaGreatDoorFldA
import Derived.Deep.RegionHeld3
import Derived.Lib.Repeat
namespace Go.Proofs.YtlcmjedbdopglaaGreatDoor
open Go.RowKit
set_option linter.unusedVariables false

/- The program's fields: two digits, and two, and two; dates; one of some bytes. -/
theorem num_two (s : ByteArray) (k : Nat) (h : k + 2 ≤ s.size) : numOf (nat (s.extract k (k + 2))) 0 (s.extract k (k + 2)).size = twoOf (nat s) k := by
  have e : (s.extract k (k + 2)).size = 2 := by rw [size_extract]; omega
  have w0 : wd (nat (s.extract k (k + 2))) 0 = wd (nat s) k := by
    rw [nat_extract]; unfold wd
    simp [List.getD_eq_getElem?_getD, List.getElem?_drop]
  have w1 : wd (nat (s.extract k (k + 2))) 1 = wd (nat s) (k + 1) := by
    rw [nat_extract]; unfold wd
    simp [List.getD_eq_getElem?_getD, List.getElem?_drop]
  rw [e]
  show (0 * 10 + (wd _ (0 + 0) - 48)) * 10 + (wd _ (0 + 1) - 48) = _
  rw [show 0 + 0 = 0 from rfl, show 0 + 1 = 1 from rfl, w0, w1]
  unfold twoOf
  omega
theorem all_part {S : List Nat} {p : Nat → Bool} (h : S.all p = true) (a b : Nat) : ((S.take b).drop a).all p = true := by
  rw [List.all_eq_true] at h ⊢
  exact fun x hx => h x (List.mem_of_mem_take (List.mem_of_mem_drop hx))
set_option maxHeartbeats 1000000 in
theorem fld_two (s : ByteArray) (k : Nat) (a : Addr) (w : World) (hs : s.size ≤ 1000) (hk : k + 2 ≤ s.size) (hp : (nat s).all isDig = true) (ha : w.cell? a = some (.string s)) :
    Calls Tryz.prog 143 #[.int .i64 (k : Nat), .pointer (some a)] w fun e w' => e = .returned (.int .i64 (twoOf (nat s) k : Nat)) ∧ Grew w w' := by
  have HN := fun w => fld_num_dec (s.extract k (k + 2)) w (by rw [size_extract]; omega) (by rw [nat_extract]; exact all_part hp _ _)
  rw [num_two s k hk] at HN
  have hd : ∀ i, i < s.size → isDig (wd (nat s) i) = true := fun i hi => all_iff.1 hp i (by rw [nat_length]; exact hi)
  have hb := two_lt (nat s) k (hd k (by omega)) (hd (k + 1) (by omega))
  unfold told at HN
  generalize twoOf (nat s) k = n at *
  rw [if_pos (by omega), decide_eq_true (by omega)] at HN
  replace HN := fun w => Lib.hid (HN w)
  have p1 : (0 : Int) ≤ k := by omega
  have p2 : (k : Int) ≤ s.size := by omega
  have p3 : IntKind.i64.wrap ((k : Int) + 2) = ((k + 2 : Nat) : Int) := by rw [IntWalk.i64_in _ (by omega)]; simp
  have p4 : ((k + 2 : Nat) : Int) ≤ s.size := by omega
  have p5 : (k : Int) ≤ ((k + 2 : Nat) : Int) := by omega
  have p6 : (0 : Int) ≤ ((k + 2 : Nat) : Int) := by omega
  have hx : Hid (∀ w', Grew w w' → w'.cell? a = some (.string s)) := fun w' g => kept_cell ha g
  obtain ⟨m, hm⟩ : ∃ m, k + 2 = m := ⟨_, rfl⟩
  rw [hm] at HN p3 p4 p5 p6
  clear hd hm hp hk
  go_enter Tryz.func143, Tryz.ntmps143
  have ha2 := ha
  go_wp2_with (first | (go_at_call 135; refine (HN _).out.mono ?_; rintro e w1 ⟨rfl, rfl⟩))
  go_ret
  exact ⟨rfl, Grew.refl _⟩

/-- What six digits are, by two. -/
def sixOf (s : ByteArray) : Value := if s.size = 6 ∧ (nat s).all isDig = true then .tuple #[.int .i64 (twoOf (nat s) 0 : Nat), .int .i64 (twoOf (nat s) 2 : Nat), .int .i64 (twoOf (nat s) 4 : Nat), .bool true] else .tuple #[.int .i64 0, .int .i64 0, .int .i64 0, .bool false]
set_option maxHeartbeats 1000000 in
theorem fld_six (s : ByteArray) (w : World) (hs : s.size ≤ 1000) :
    Calls Tryz.prog 132 #[.string s] w fun e w' => e = .returned (sixOf s) ∧ Grew w w' := by
  have HO := fun w => Lib.hid (fld_allOf ⟨#[48, 49, 50, 51, 52, 53, 54, 55, 56, 57]⟩ w)
  have HA := fun a w h => Lib.hid (fld_digs s a w hs h)
  have KS : ∀ w', Grew (w.alloc (.cells #[.string s] 9)) w' → w'.cell? ⟨w.heap.size, 0, none⟩ = some (.string s) := fun w' g => kept_cell (by simp [go_sem]) g
  have G : Grew (w.alloc (.cells #[.string s] 9)) (w.alloc (.cells #[.string s] 9)).drew := (Grew.refl _).drew
  by_cases h6 : s.size = 6
  · have c1 : ((s.size : Int) != 6) = false := by rw [h6]; rfl
    cases hd : (nat s).all isDig
    · have HI : Hid (sixOf s = .tuple #[.int .i64 0, .int .i64 0, .int .i64 0, .bool false]) := by show _ = _; unfold sixOf; rw [if_neg (by rw [hd]; simp)]
      rw [hd] at HA
      clear hd h6
      go_enter Tryz.func132, Tryz.ntmps132
      go_wp2_with fail
      go_region_held3 (fun w' => w'.cell? ⟨w.heap.size, 0, none⟩ = some (.string s)) (exact KS _ G) (first | (go_at_call 133; refine (HO _).out.mono ?_; rintro e w1 ⟨q, rfl, hq, g1⟩; replace G := G.trans g1; clear g1) | (go_at_call 144; (with_reducible refine (HA q _ hq).out.mono ?_); rintro e w2 ⟨rfl, g1⟩; replace G := G.trans g1; clear g1))
      go_wp2_with fail
      refine bodyPost_ret (by simp [results, Tryz.results132, go_sem]; try rfl) rfl ?_
      exact ⟨by rw [HI.out], ((Grew.refl w).alloc _).trans G⟩
    · have HI : Hid (sixOf s = .tuple #[.int .i64 (twoOf (nat s) 0 : Nat), .int .i64 (twoOf (nat s) 2 : Nat), .int .i64 (twoOf (nat s) 4 : Nat), .bool true]) := by show _ = _; unfold sixOf; rw [if_pos ⟨h6, hd⟩]
      have HT0 : ∀ w1 : World, w1.cell? ⟨w.heap.size, 0, none⟩ = some (.string s) → Hid (Calls Tryz.prog 143 #[.int .i64 0, .pointer (some ⟨w.heap.size, 0, none⟩)] w1 fun e w' => e = .returned (.int .i64 (twoOf (nat s) 0 : Nat)) ∧ Grew w1 w') := fun w1 h => Lib.hid (fld_two s 0 _ w1 hs (by omega) hd h)
      have HT2 : ∀ w1 : World, w1.cell? ⟨w.heap.size, 0, none⟩ = some (.string s) → Hid (Calls Tryz.prog 143 #[.int .i64 2, .pointer (some ⟨w.heap.size, 0, none⟩)] w1 fun e w' => e = .returned (.int .i64 (twoOf (nat s) 2 : Nat)) ∧ Grew w1 w') := fun w1 h => Lib.hid (fld_two s 2 _ w1 hs (by omega) hd h)
      have HT4 : ∀ w1 : World, w1.cell? ⟨w.heap.size, 0, none⟩ = some (.string s) → Hid (Calls Tryz.prog 143 #[.int .i64 4, .pointer (some ⟨w.heap.size, 0, none⟩)] w1 fun e w' => e = .returned (.int .i64 (twoOf (nat s) 4 : Nat)) ∧ Grew w1 w') := fun w1 h => Lib.hid (fld_two s 4 _ w1 hs (by omega) hd h)
      rw [hd] at HA
      generalize twoOf (nat s) 0 = T0 at *
      generalize twoOf (nat s) 2 = T2 at *
      generalize twoOf (nat s) 4 = T4 at *
      clear hd h6
      go_enter Tryz.func132, Tryz.ntmps132
      go_wp2_with fail
      go_region_held3 (fun w' => w'.cell? ⟨w.heap.size, 0, none⟩ = some (.string s)) (exact KS _ G) (first | (go_at_call 133; refine (HO _).out.mono ?_; rintro e w1 ⟨q, rfl, hq, g1⟩; replace G := G.trans g1; clear g1) | (go_at_call 144; (with_reducible refine (HA q _ hq).out.mono ?_); rintro e w2 ⟨rfl, g1⟩; replace G := G.trans g1; clear g1))
      go_wp2_with (first | (go_at_call 143; (first | (with_reducible refine (HT0 _ (KS _ G)).out.mono ?_) | (with_reducible refine (HT2 _ (KS _ G)).out.mono ?_) | (with_reducible refine (HT4 _ (KS _ G)).out.mono ?_)); rintro e w3 ⟨rfl, g1⟩; replace G := G.trans g1; clear g1))
      refine bodyPost_ret (by simp [results, Tryz.results132, go_sem]; try rfl) rfl ?_
      exact ⟨by rw [HI.out], ((Grew.refl w).alloc _).trans G⟩
  · have HI : Hid (sixOf s = .tuple #[.int .i64 0, .int .i64 0, .int .i64 0, .bool false]) := by show _ = _; unfold sixOf; rw [if_neg (fun h => h6 h.1)]
    have c1 : ((s.size : Int) != 6) = true := by simp; omega
    have c2 : ((s.size : Int) == 6) = false := by simp; omega
    have c3 : ¬ (s.size : Int) = 6 := by omega
    clear h6
    go_enter Tryz.func132, Tryz.ntmps132
    go_wp2_with fail
    have hc := KS _ (Grew.refl _)
    go_quiet (fail)
    go_wp2_with fail
    refine bodyPost_ret (by simp [results, Tryz.results132, go_sem]; try rfl) rfl ?_
    exact ⟨by rw [HI.out], ((Grew.refl w).alloc _).drewN _⟩
/- The program's fields: dates; one of some bytes. -/
set_option maxHeartbeats 1000000 in
theorem fld_Date (s : ByteArray) (w : World) (hs : s.size ≤ 1000) :
    Calls Tryz.prog 114 #[.string s] w fun e w' => e = .returned (dateVal (dateOf (nat s))) ∧ Grew w w' := by
  have hl := nat_length s
  have HR := fun w => Lib.hid (fld_read s w hs)
  have HS := fun w => fld_six s w hs
  by_cases hr : readE (nat s) = 0
  · rw [hr] at HR
    have hw := fun h : s.size = 6 => (show digs (nat s) 0 6 = (nat s).all isDig by have := digs_whole (nat s) (by omega); rwa [hl, h] at this)
    by_cases h6 : s.size = 6 ∧ (nat s).all isDig = true
    · have hI : Hid (dateOf (nat s) = if twoOf (nat s) 0 < 1 ∨ 31 < twoOf (nat s) 0 ∨ twoOf (nat s) 2 < 1 ∨ 12 < twoOf (nat s) 2 then ((0, 0, 0), 5) else ((twoOf (nat s) 0, twoOf (nat s) 2, twoOf (nat s) 4), 0)) := by
        show _ = _
        unfold dateOf
        rw [if_neg (by omega), hl, hw h6.1, h6.2]
        by_cases hc : twoOf (nat s) 0 < 1 ∨ 31 < twoOf (nat s) 0 ∨ twoOf (nat s) 2 < 1 ∨ 12 < twoOf (nat s) 2
        · rw [if_pos hc, if_pos (.inr (.inr hc))]
        · rw [if_neg hc, if_neg (fun h => by rcases h with h | h | h; exact h h6.1; cases h; exact hc h)]
      have e6 : sixOf s = .tuple #[.int .i64 (twoOf (nat s) 0 : Nat), .int .i64 (twoOf (nat s) 2 : Nat), .int .i64 (twoOf (nat s) 4 : Nat), .bool true] := by unfold sixOf; rw [if_pos h6]
      rw [e6] at HS
      replace HS := fun w => Lib.hid (HS w)
      generalize twoOf (nat s) 0 = T0 at *
      generalize twoOf (nat s) 2 = T2 at *
      generalize twoOf (nat s) 4 = T4 at *
      clear e6 hw hl hr h6
      by_cases hbad : T0 < 1 ∨ 31 < T0 ∨ T2 < 1 ∨ 12 < T2
      · have HI : Hid (dateOf (nat s) = ((0, 0, 0), 5)) := by show _ = _; rw [hI.out, if_pos hbad]
        have hcase : T0 < 1 ∨ (¬ T0 < 1 ∧ 31 < T0) ∨ (¬ T0 < 1 ∧ ¬ 31 < T0 ∧ T2 < 1) ∨ (¬ T0 < 1 ∧ ¬ 31 < T0 ∧ ¬ T2 < 1 ∧ 12 < T2) := by omega
        clear hI hbad
        rcases hcase with h | ⟨h, h1⟩ | ⟨h, h1, h2⟩ | ⟨h, h1, h2, h3⟩
        all_goals
          go_enter Tryz.func114, Tryz.ntmps114
          go_wp2_with (first | (go_at_call 130; refine (HR _).out.mono ?_; rintro e w1 ⟨rfl, rfl⟩) | (go_at_call 132; refine (HS _).out.mono ?_; rintro e w1 ⟨rfl, g1⟩))
          refine bodyPost_ret (by simp [results, Tryz.results114, go_sem]; try rfl) rfl ?_
          exact ⟨by rw [HI.out]; rfl, g1⟩
      · have HI : Hid (dateOf (nat s) = ((T0, T2, T4), 0)) := by show _ = _; rw [hI.out, if_neg hbad]
        have z0 : ¬ (T0 : Int) < 1 := by omega
        have z1 : ¬ (31 : Int) < T0 := by omega
        have z2 : ¬ (T2 : Int) < 1 := by omega
        have z3 : ¬ (12 : Int) < T2 := by omega
        clear hI hbad
        go_enter Tryz.func114, Tryz.ntmps114
        go_wp2_with (first | (go_at_call 130; refine (HR _).out.mono ?_; rintro e w1 ⟨rfl, rfl⟩) | (go_at_call 132; refine (HS _).out.mono ?_; rintro e w1 ⟨rfl, g1⟩))
        refine bodyPost_ret (by simp [results, Tryz.results114, go_sem]; try rfl) rfl ?_
        exact ⟨by rw [HI.out]; rfl, g1⟩
    · have HI : Hid (dateOf (nat s) = ((0, 0, 0), 5)) := by
        show _ = _
        unfold dateOf
        rw [if_neg (by omega), hl]
        by_cases h : s.size = 6
        · rw [hw h, if_pos (.inr (.inl (by cases hq : (nat s).all isDig; rfl; exact absurd ⟨h, hq⟩ h6)))]
        · rw [if_pos (.inl h)]
      have e6 : sixOf s = .tuple #[.int .i64 0, .int .i64 0, .int .i64 0, .bool false] := by unfold sixOf; rw [if_neg h6]
      rw [e6] at HS
      replace HS := fun w => Lib.hid (HS w)
      clear e6 hw hl hr h6
      go_enter Tryz.func114, Tryz.ntmps114
      go_wp2_with (first | (go_at_call 130; refine (HR _).out.mono ?_; rintro e w1 ⟨rfl, rfl⟩) | (go_at_call 132; refine (HS _).out.mono ?_; rintro e w1 ⟨rfl, g1⟩))
      refine bodyPost_ret (by simp [results, Tryz.results114, go_sem]; try rfl) rfl ?_
      exact ⟨by rw [HI.out]; rfl, g1⟩
  · have hI : Hid (dateOf (nat s) = ((0, 0, 0), readE (nat s))) := by show _ = _; unfold dateOf; rw [if_pos hr]
    have hr9 := readE_le (nat s)
    have r0 : ¬ (readE (nat s) : Int) = 0 := by omega
    have r1 : ((readE (nat s) : Int) == 0) = false := by simpa using r0
    clear hl hr
    generalize readE (nat s) = r at *
    go_enter Tryz.func114, Tryz.ntmps114
    go_wp2_with (first | (go_at_call 130; refine (HR _).out.mono ?_; rintro e w1 ⟨rfl, rfl⟩))
    refine bodyPost_ret (by simp [results, Tryz.results114, go_sem]; try rfl) rfl ?_
    exact ⟨by rw [hI.out]; rfl, Grew.refl _⟩

set_option maxHeartbeats 1000000 in
theorem fld_One (s o : ByteArray) (w : World) (hs : s.size ≤ 1000) (ho : o.size ≤ 1000) :
    Calls Tryz.prog 117 #[.string s, .string o] w fun e w' => e = .returned (.tuple #[.int .i64 ((oneOf (nat s) (nat o)).1 : Nat), .int .i64 ((oneOf (nat s) (nat o)).2 : Nat)]) ∧ Grew w w' := by
  have hl := nat_length s
  have hlo := nat_length o
  have HR := fun w => Lib.hid (fld_read s w hs)
  by_cases hr : readE (nat s) = 0
  · rw [hr] at HR
    have hz := readE_zero hr
    have y : ∀ w, Sem.run Tryz.prog (Instr.index 9 (.string s) (.int .i64 0)) w = .ok (.int .u8 (wd (nat s) 0 : Nat)) w := fun w => str_at s 0 (by omega) w
    have x256 := nat_lt s 0
    have hI : Hid (oneOf (nat s) (nat o) = if s.size = 1 ∧ placeOf (wd (nat s) 0) (nat o) < o.size then (placeOf (wd (nat s) 0) (nat o), 0) else (0, 5)) := by show _ = _; unfold oneOf; rw [if_neg (by omega), hl, hlo]
    have HX := fun w' => Tryz.strings_IndexByte o (wd (nat s) 0 : Nat) w'
    have e1 : (wd (nat s) 0).toUInt8.toNat = wd (nat s) 0 := Nat.mod_eq_of_lt x256
    have e2 : o.data.toList.map UInt8.toNat = nat o := rfl
    have e3 : o.data.toList.length = o.size := Array.length_toList ..
    rw [boolInt _ x256, index_place, e1, e2, e3] at HX
    generalize placeOf (wd (nat s) 0) (nat o) = P at *
    clear e1 e2 e3 hl hlo hr
    generalize wd (nat s) 0 = c at *
    have z1 : (0 : Int) < s.size := by omega
    by_cases hp : P < o.size
    · rw [if_pos hp] at HX
      replace HX := fun w => Lib.hid (HX w)
      have p0 : ¬ (P : Int) < 0 := by omega
      by_cases h1 : s.size = 1
      · have HI : Hid (oneOf (nat s) (nat o) = (P, 0)) := by show _ = _; rw [hI.out, if_pos ⟨h1, hp⟩]
        have c1 : (s.size : Int) = 1 := by omega
        clear hI h1 hz
        go_enter Tryz.func117, Tryz.ntmps117
        go_wp2_with (first | (go_at_call 130; refine (HR _).out.mono ?_; rintro e w1 ⟨rfl, rfl⟩) | (go_at_call 137; refine (HX _).out.mono ?_; rintro e w1 ⟨rfl, rfl⟩))
        go_ret2
        exact ⟨by rw [HI.out]; rfl, Grew.refl _⟩
      · have HI : Hid (oneOf (nat s) (nat o) = (0, 5)) := by show _ = _; rw [hI.out, if_neg (fun h => h1 h.1)]
        have c1 : ((s.size : Int) != 1) = true := by simp; omega
        have c2 : ((s.size : Int) == 1) = false := by simp; omega
        have c3 : ¬ (s.size : Int) = 1 := by omega
        clear hI h1 hz
        go_enter Tryz.func117, Tryz.ntmps117
        go_wp2_with (first | (go_at_call 130; refine (HR _).out.mono ?_; rintro e w1 ⟨rfl, rfl⟩) | (go_at_call 137; refine (HX _).out.mono ?_; rintro e w1 ⟨rfl, rfl⟩))
        go_ret2
        exact ⟨by rw [HI.out]; rfl, Grew.refl _⟩
    · rw [if_neg hp] at HX
      replace HX := fun w => Lib.hid (HX w)
      have HI : Hid (oneOf (nat s) (nat o) = (0, 5)) := by show _ = _; rw [hI.out, if_neg (fun h => hp h.2)]
      clear hI hz
      by_cases h1 : s.size = 1
      · have c1 : (s.size : Int) = 1 := by omega
        clear h1
        go_enter Tryz.func117, Tryz.ntmps117
        go_wp2_with (first | (go_at_call 130; refine (HR _).out.mono ?_; rintro e w1 ⟨rfl, rfl⟩) | (go_at_call 137; refine (HX _).out.mono ?_; rintro e w1 ⟨rfl, rfl⟩))
        go_ret2
        exact ⟨by rw [HI.out]; rfl, Grew.refl _⟩
      · have c1 : ((s.size : Int) != 1) = true := by simp; omega
        have c2 : ((s.size : Int) == 1) = false := by simp; omega
        have c3 : ¬ (s.size : Int) = 1 := by omega
        clear h1
        go_enter Tryz.func117, Tryz.ntmps117
        go_wp2_with (first | (go_at_call 130; refine (HR _).out.mono ?_; rintro e w1 ⟨rfl, rfl⟩) | (go_at_call 137; refine (HX _).out.mono ?_; rintro e w1 ⟨rfl, rfl⟩))
        go_ret2
        exact ⟨by rw [HI.out]; rfl, Grew.refl _⟩
  · have hI : Hid (oneOf (nat s) (nat o) = (0, readE (nat s))) := by show _ = _; unfold oneOf; rw [if_pos hr]
    have hr9 := readE_le (nat s)
    have r0 : ¬ (readE (nat s) : Int) = 0 := by omega
    have r1 : ((readE (nat s) : Int) == 0) = false := by simpa using r0
    clear hl hlo hr
    generalize readE (nat s) = r at *
    go_enter Tryz.func117, Tryz.ntmps117
    go_wp2_with (first | (go_at_call 130; refine (HR _).out.mono ?_; rintro e w1 ⟨rfl, rfl⟩))
    go_ret2
    exact ⟨by rw [hI.out]; rfl, Grew.refl _⟩
/- The program's fields: times of day. -/
theorem newDay (w : World) (E : TypeId) : ∃ W, w.alloc (.cells #[.int .i64 0, .int .i64 0, .int .i64 0, .bool false] E) = W ∧ Grew w W ∧ FourAt W w.heap.size (.int .i64 0) (.int .i64 0) (.int .i64 0) (.bool false) :=
  ⟨_, rfl, (Grew.refl w).alloc _, FourAt.new w _ _ _ _ _⟩
theorem two_take (S : List Nat) (n k : Nat) (h : k + 2 ≤ n) : twoOf ((S.take n).drop 0) k = twoOf S k := by
  have e : ∀ i, i < n → wd ((S.take n).drop 0) i = wd S i := fun i hi => by
    unfold wd
    rw [List.drop_zero]
    simp [List.getD_eq_getElem?_getD, hi]
  unfold twoOf
  rw [e k (by omega), e (k + 1) (by omega)]
theorem six_ahead (s : ByteArray) (p : Nat) (hp : p ≤ s.size) (hd : digs (nat s) 0 p = true) :
    sixOf (s.extract 0 p) = if p = 6 then .tuple #[.int .i64 (twoOf (nat s) 0 : Nat), .int .i64 (twoOf (nat s) 2 : Nat), .int .i64 (twoOf (nat s) 4 : Nat), .bool true] else .tuple #[.int .i64 0, .int .i64 0, .int .i64 0, .bool false] := by
  have hl := nat_length s
  rw [all_cut (nat s) p (by omega), Bool.and_eq_true] at hd
  unfold sixOf
  rw [size_extract, nat_extract, hd.2]
  by_cases h : p = 6
  · subst h
    rw [if_pos ⟨by omega, rfl⟩, if_pos rfl, two_take _ _ 0 (by omega), two_take _ _ 2 (by omega), two_take _ _ 4 (by omega)]
  · rw [if_neg (fun hh => h (by omega)), if_neg h]
theorem fld_zeros (s : ByteArray) (a : Addr) (w : World) (hs : s.size ≤ 1000) (ha : w.cell? a = some (.string ⟨#[48]⟩)) :
    Calls Tryz.prog 144 #[.string s, .pointer (some a)] w fun e w' => e = .returned (.bool ((nat s).all (fun b => b == 48))) ∧ Grew w w' :=
  fld_all s _ _ _ a w hs ha among_zero
set_option maxRecDepth 100000 in
set_option maxHeartbeats 2000000 in
theorem fld_Clock (s : ByteArray) (w : World) (hs : s.size ≤ 1000) :
    Calls Tryz.prog 110 #[.string s] w fun e w' => e = .returned (dayVal (clockOf (nat s))) ∧ Grew w w' := by
  have hl := nat_length s
  have HR := fun w => Lib.hid (fld_read s w hs)
  have hpl := pointOf_le (nat s)
  rw [hl] at hpl
  have HW := Lib.hid (newDay w 34)
  obtain ⟨p, hp⟩ : ∃ p, pointOf (nat s) = p := ⟨_, rfl⟩
  have HP := fun w => fld_atPoint s p w hs hp
  rw [hp] at hpl
  by_cases hr : readE (nat s) = 0
  · have hB : Hid (clockOf (nat s) = if p ≠ 6 ∨ digs (nat s) 0 6 = false ∨ (6 < s.size ∧ digs (nat s) 7 s.size = false) then ((0, 0, 0, false), 5)
      else if 23 < twoOf (nat s) 0 ∨ 59 < twoOf (nat s) 2 ∨ 60 < twoOf (nat s) 4 then ((0, 0, 0, false), 5)
      else ((twoOf (nat s) 0, twoOf (nat s) 2, twoOf (nat s) 4, ((nat s).drop 7).all (fun b => b == 48)), 0)) := by show _ = _; unfold clockOf; rw [if_neg (by omega), hl, hp]
    rw [hr] at HR
    by_cases hb1 : digs (nat s) 0 p = false ∨ (p < s.size ∧ digs (nat s) (p + 1) s.size = false)
    · have hI : Hid (clockOf (nat s) = ((0, 0, 0, false), 5)) := by
        show _ = _
        by_cases h6 : p = 6
        · subst h6
          rw [hB.out, if_pos (.inr hb1)]
        · rw [hB.out, if_pos (.inl h6)]
      have e6 : atPt s p = .tuple #[.string ⟨#[]⟩, .string ⟨#[]⟩, .bool false] := by unfold atPt; rw [if_pos hb1]
      rw [e6] at HP
      replace HP := fun w => Lib.hid (HP w)
      clear hB hl hr hb1 e6 hp hpl
      go_enter Tryz.func110, Tryz.ntmps110
      go_upto_region 1 with fail
      obtain ⟨W, hW, gW, hA⟩ := HW.out
      rw [hW]
      have HA := Lib.hid hA
      have HG := Lib.hid gW
      clear hW HW hA gW
      go_upto_region 5 with (first | (go_at_call 130; refine (HR _).out.mono ?_; rintro e w1 ⟨rfl, rfl⟩) | (go_at_call 131; refine (HP _).out.mono ?_; rintro e w1 ⟨rfl, g1⟩; replace HA := Lib.hid (HA.out.grew g1); replace HG := Lib.hid (HG.out.trans g1); clear g1))
      obtain ⟨a, a0, a1, a2, a3, a4, a5, a6, a7⟩ := HA.out
      go_wp2_with fail
      refine bodyPost_ret (by simp [results, Tryz.results110, go_sem, a0, a1, a2, a3]; try rfl) rfl ?_
      exact ⟨by rw [hI.out]; rfl, HG.out.four _ (Nat.le_refl _) _ _ _ _⟩
    · have hd : digs (nat s) 0 p = true := by cases h : digs (nat s) 0 p; exact absurd (.inl h) hb1; rfl
      have e6 : atPt s p = .tuple #[.string (s.extract 0 p), .string (s.extract (p + 1) s.size), .bool true] := by unfold atPt; rw [if_neg hb1]
      rw [e6] at HP
      replace HP := fun w => Lib.hid (HP w)
      have hS := fun w => fld_six (s.extract 0 p) w (by rw [size_extract]; omega)
      rw [six_ahead s p hpl hd] at hS
      by_cases h6 : p = 6
      · rw [if_pos h6] at hS
        have HS := fun w => Lib.hid (hS w)
        have HO := fun w => Lib.hid (fld_allOf ⟨#[48]⟩ w)
        have HZ := fun a w h => fld_zeros (s.extract (p + 1) s.size) a w (by rw [size_extract]; omega) h
        have e7 : ((nat (s.extract (p + 1) s.size)).all fun b => b == 48) = ((nat s).drop 7).all (fun b => b == 48) := by
          rw [nat_extract, List.take_of_length_le (by omega), h6]
        rw [e7] at HZ
        have hB2 : Hid (clockOf (nat s) = if 23 < twoOf (nat s) 0 ∨ 59 < twoOf (nat s) 2 ∨ 60 < twoOf (nat s) 4 then ((0, 0, 0, false), 5)
            else ((twoOf (nat s) 0, twoOf (nat s) 2, twoOf (nat s) 4, ((nat s).drop 7).all (fun b => b == 48)), 0)) := by
          show _ = _
          rw [hB.out, if_neg (fun h => by
            subst h6
            rcases h with h | h | h
            · exact h rfl
            · exact hb1 (.inl h)
            · exact hb1 (.inr h))]
        replace HZ := fun a w h => Lib.hid (HZ a w h)
        generalize ((nat s).drop 7).all (fun b => b == 48) = wh at *
        generalize s.extract 0 p = A at *
        generalize s.extract (p + 1) s.size = B at *
        generalize twoOf (nat s) 0 = T0 at *
        generalize twoOf (nat s) 2 = T2 at *
        generalize twoOf (nat s) 4 = T4 at *
        clear hB hl hr hb1 e6 hp hpl hS hd e7 h6
        go_enter Tryz.func110, Tryz.ntmps110
        go_upto_region 1 with fail
        obtain ⟨W, hW, gW, hA⟩ := HW.out
        rw [hW]
        have HA := Lib.hid hA
        have HG := Lib.hid gW
        clear hW HW hA gW
        go_upto_region 8 with (first | (go_at_call 130; refine (HR _).out.mono ?_; rintro e w1 ⟨rfl, rfl⟩) | (go_at_call 131; refine (HP _).out.mono ?_; rintro e w1 ⟨rfl, g1⟩; replace HA := Lib.hid (HA.out.grew g1); replace HG := Lib.hid (HG.out.trans g1); clear g1) | (go_at_call 132; refine (HS _).out.mono ?_; rintro e w1 ⟨rfl, g1⟩; replace HA := Lib.hid (HA.out.grew g1); replace HG := Lib.hid (HG.out.trans g1); clear g1))
        by_cases hbad : 23 < T0 ∨ 59 < T2 ∨ 60 < T4
        · have hI : Hid (clockOf (nat s) = ((0, 0, 0, false), 5)) := by show _ = _; rw [hB2.out, if_pos hbad]
          have hcase : 23 < T0 ∨ (¬ 23 < T0 ∧ 59 < T2) ∨ (¬ 23 < T0 ∧ ¬ 59 < T2 ∧ 60 < T4) := by omega
          clear hB2 hbad
          obtain ⟨a, a0, a1, a2, a3, a4, a5, a6, a7⟩ := HA.out
          rcases hcase with h | ⟨h, h'⟩ | ⟨h, h', h''⟩
          all_goals
            go_wp2_with fail
            refine bodyPost_ret (by simp [results, Tryz.results110, go_sem, a0, a1, a2, a3]; try rfl) rfl ?_
            exact ⟨by rw [hI.out]; rfl, HG.out.four _ (Nat.le_refl _) _ _ _ _⟩
        · have hI : Hid (clockOf (nat s) = ((T0, T2, T4, wh), 0)) := by show _ = _; rw [hB2.out, if_neg hbad]
          have z1 : ¬ (23 : Int) < T0 := by omega
          have z2 : ¬ (59 : Int) < T2 := by omega
          have z3 : ¬ (60 : Int) < T4 := by omega
          clear hB2 hbad
          go_wp2_with (first | (go_at_call 133; refine (HO _).out.mono ?_; rintro e w1 ⟨q, rfl, hq, g1⟩; replace HA := Lib.hid (HA.out.grew g1); replace HG := Lib.hid (HG.out.trans g1); have HQ := Lib.hid hq; clear hq g1) | (go_at_call 144; (with_reducible refine (HZ q _ HQ.out).out.mono ?_); rintro e w1 ⟨rfl, g1⟩; replace HA := Lib.hid (HA.out.grew g1); replace HG := Lib.hid (HG.out.trans g1); clear g1; obtain ⟨a, a0, a1, a2, a3, a4, a5, a6, a7⟩ := HA.out))
          refine bodyPost_ret (by simp [results, Tryz.results110, go_sem, a0, a1, a2, a3]; try rfl) rfl ?_
          exact ⟨by rw [hI.out]; rfl, HG.out.four _ (Nat.le_refl _) _ _ _ _⟩
      · have hI : Hid (clockOf (nat s) = ((0, 0, 0, false), 5)) := by show _ = _; rw [hB.out, if_pos (.inl h6)]
        rw [if_neg h6] at hS
        have HS := fun w => Lib.hid (hS w)
        generalize s.extract 0 p = A at *
        generalize s.extract (p + 1) s.size = B at *
        clear hB hl hr hb1 e6 hp hpl hS hd h6
        go_enter Tryz.func110, Tryz.ntmps110
        go_upto_region 1 with fail
        obtain ⟨W, hW, gW, hA⟩ := HW.out
        rw [hW]
        have HA := Lib.hid hA
        have HG := Lib.hid gW
        clear hW HW hA gW
        go_upto_region 8 with (first | (go_at_call 130; refine (HR _).out.mono ?_; rintro e w1 ⟨rfl, rfl⟩) | (go_at_call 131; refine (HP _).out.mono ?_; rintro e w1 ⟨rfl, g1⟩; replace HA := Lib.hid (HA.out.grew g1); replace HG := Lib.hid (HG.out.trans g1); clear g1) | (go_at_call 132; refine (HS _).out.mono ?_; rintro e w1 ⟨rfl, g1⟩; replace HA := Lib.hid (HA.out.grew g1); replace HG := Lib.hid (HG.out.trans g1); clear g1))
        obtain ⟨a, a0, a1, a2, a3, a4, a5, a6, a7⟩ := HA.out
        go_wp2_with fail
        refine bodyPost_ret (by simp [results, Tryz.results110, go_sem, a0, a1, a2, a3]; try rfl) rfl ?_
        exact ⟨by rw [hI.out]; rfl, HG.out.four _ (Nat.le_refl _) _ _ _ _⟩
  · have hI : Hid (clockOf (nat s) = ((0, 0, 0, false), readE (nat s))) := by show _ = _; unfold clockOf; rw [if_pos hr]
    have hr9 := readE_le (nat s)
    have r0 : ¬ (readE (nat s) : Int) = 0 := by omega
    have r1 : ((readE (nat s) : Int) == 0) = false := by simpa using r0
    clear hl hr hp hpl HP
    generalize readE (nat s) = r at *
    go_enter Tryz.func110, Tryz.ntmps110
    go_upto_region 1 with fail
    obtain ⟨W, hW, gW, hA⟩ := HW.out
    rw [hW]
    obtain ⟨a, a0, a1, a2, a3, a4, a5, a6, a7⟩ := hA
    clear hW HW
    go_wp2_with (first | (go_at_call 130; refine (HR _).out.mono ?_; rintro e w1 ⟨rfl, rfl⟩))
    refine bodyPost_ret (by simp [results, Tryz.results110, go_sem, a0, a1, a2, a3]; try rfl) rfl ?_
    exact ⟨by rw [hI.out]; rfl, gW.four _ (Nat.le_refl _) _ _ _ _⟩
/- The program's fields: numbers with places, as plain lists. -/
theorem wd_append_lt (A K : List Nat) (i : Nat) (h : i < A.length) : wd (A ++ K) i = wd A i := by
  unfold wd
  rw [List.getD_eq_getElem?_getD, List.getD_eq_getElem?_getD, List.getElem?_append_left h]
theorem wd_append_ge (A K : List Nat) (k : Nat) : wd (A ++ K) (A.length + k) = wd K k := by
  unfold wd
  rw [List.getD_eq_getElem?_getD, List.getD_eq_getElem?_getD, List.getElem?_append_right (by omega), Nat.add_sub_cancel_left]
theorem num_ahead (S A K : List Nat) (f p : Nat) (hA : A.length = p - f) (h1 : ∀ i, i < p - f → wd A i = wd S (f + i)) : ∀ k, k ≤ p - f → numOf (A ++ K) 0 k = numOf S f k
  | 0, _ => rfl
  | k + 1, h => by rw [numOf, numOf, num_ahead S A K f p hA h1 k (by omega), Nat.zero_add, wd_append_lt A K k (by omega), h1 k (by omega)]
theorem num_fix (S A K : List Nat) (f p P : Nat) (hA : A.length = p - f) (h1 : ∀ i, i < p - f → wd A i = wd S (f + i)) (h2 : ∀ k, k < P → wd K k = if p + (k + 1) < S.length then wd S (p + (k + 1)) else 48) :
    ∀ k, k ≤ P → numOf (A ++ K) 0 (A.length + k) = fixN S p (numOf S f (p - f)) k
  | 0, _ => by rw [Nat.add_zero, num_ahead S A K f p hA h1 A.length (by omega), hA]; rfl
  | k + 1, h => by
    rw [← Nat.add_assoc, numOf, fixN, num_fix S A K f p P hA h1 h2 k (by omega), Nat.zero_add, wd_append_ge, h2 k (by omega)]
    split <;> rfl
/-- What stands behind a point, with so many zeros, so many digits of it. -/
def keptOf (S : List Nat) (p P : Nat) : List Nat := (S.drop (p + 1) ++ List.replicate P 48).take P
theorem kept_len (S : List Nat) (p P : Nat) : (keptOf S p P).length = P := by
  unfold keptOf
  rw [List.length_take, List.length_append, List.length_replicate]
  omega
theorem kept_wd (S : List Nat) (p P k : Nat) (h : k < P) : wd (keptOf S p P) k = if p + (k + 1) < S.length then wd S (p + (k + 1)) else 48 := by
  unfold keptOf wd
  rw [List.getD_eq_getElem?_getD, List.getElem?_take_of_lt h]
  by_cases hk : p + (k + 1) < S.length
  · rw [if_pos hk, List.getElem?_append_left (by rw [List.length_drop]; omega), List.getElem?_drop, show p + 1 + k = p + (k + 1) by omega, ← List.getD_eq_getElem?_getD]
  · rw [if_neg hk, List.getElem?_append_right (by rw [List.length_drop]; omega), List.getElem?_replicate_of_lt (by omega)]
    rfl
theorem rep_zero : ∀ P, nat ⟨(Lib.repeatL [48] P).toArray⟩ = List.replicate P 48
  | 0 => rfl
  | P + 1 => by
    rw [nat_mk, Lib.repeatL, List.map_append, List.replicate_succ]
    show [48] ++ List.map UInt8.toNat (Lib.repeatL [48] P) = _
    have := rep_zero P
    rw [nat_mk] at this
    rw [this]; rfl
theorem digs_drop (S : List Nat) (f a b : Nat) (hb : f + b ≤ S.length) : digs (S.drop f) a b = digs S (f + a) (f + b) := by
  unfold digs
  rw [List.drop_drop, show f + b - (f + a) = b - a by omega]
  congr 1
  rw [decide_eq_decide]
  omega
theorem from_le (S : List Nat) : fromOf S ≤ 1 := by unfold fromOf; split <;> omega
theorem point_drop (S : List Nat) (h : 0 < S.length) : fromOf S ≤ pointOf S ∧ pointOf (S.drop (fromOf S)) = pointOf S - fromOf S := by
  cases S with
  | nil => simp at h
  | cons x S =>
    by_cases hx : x = 45
    · subst hx
      have e : fromOf (45 :: S) = 1 := rfl
      have e2 : pointOf (45 :: S) = pointOf S + 1 := by rw [point_place, point_place, placeOf]; rfl
      rw [e, e2]
      exact ⟨by omega, by simp⟩
    · have e : fromOf (x :: S) = 0 := by unfold fromOf wd; simp [hx]
      rw [e]
      exact ⟨by omega, by simp⟩
theorem cut_minus (s : ByteArray) (h : 0 < s.size) : (⟨(Lib.trimPrefix s.data.toList [45]).toArray⟩ : ByteArray) = s.extract (fromOf (nat s)) s.size ∧ Lib.hasPrefix s.data.toList [45] = decide (fromOf (nat s) = 1) := by
  have hl := nat_length s
  have e : nat s = s.data.toList.map UInt8.toNat := rfl
  have hpre : Lib.hasPrefix s.data.toList [45] = decide (fromOf (nat s) = 1) := by
    unfold fromOf wd
    rw [e]
    cases hL : s.data.toList with
    | nil => rw [e, hL] at hl; simp at hl; omega
    | cons x L =>
      show ([45] : List UInt8).isPrefixOf (x :: L) = _
      by_cases hx : x = 45
      · subst hx; simp [List.isPrefixOf]
      · have hx2 : ¬ x.toNat = 45 := fun h => hx (UInt8.toNat_inj.1 h)
        have hx3 : ((45 : UInt8) == x) = false := by simpa using fun h => hx h.symm
        simp [List.isPrefixOf, hx2, hx3]
  refine ⟨nat_ext ?_, hpre⟩
  rw [nat_extract, List.take_of_length_le (by omega), nat_mk]
  unfold Lib.trimPrefix
  rw [hpre]
  rcases (show fromOf (nat s) = 0 ∨ fromOf (nat s) = 1 by have := from_le (nat s); omega) with hf | hf
  · rw [hf]; rfl
  · rw [hf, if_pos (by decide), List.map_drop]; rfl
/- The program's fields: numbers with places. -/
/-- What the program has of a text that may be a number with places: its digits all are, and how many. -/
theorem fix_bad (s : ByteArray) (hr : 0 < s.size) : ∃ p, pointOf (nat (s.extract (fromOf (nat s)) s.size)) = p ∧ p ≤ s.size - fromOf (nat s) ∧ pointOf (nat s) = p + fromOf (nat s) ∧
    ((digs (nat (s.extract (fromOf (nat s)) s.size)) 0 p = false ∨ (p < (s.extract (fromOf (nat s)) s.size).size ∧ digs (nat (s.extract (fromOf (nat s)) s.size)) (p + 1) (s.extract (fromOf (nat s)) s.size).size = false)) ↔
      (digs (nat s) (fromOf (nat s)) (pointOf (nat s)) = false ∨ (pointOf (nat s) < s.size ∧ digs (nat s) (pointOf (nat s) + 1) s.size = false))) := by
  have hl := nat_length s
  obtain ⟨h1, h2⟩ := point_drop (nat s) (by omega)
  have hle := pointOf_le (nat s)
  have hf := from_le (nat s)
  have e : nat (s.extract (fromOf (nat s)) s.size) = (nat s).drop (fromOf (nat s)) := by rw [nat_extract, List.take_of_length_le (by omega)]
  rw [e, size_extract, h2]
  generalize pointOf (nat s) = p at *
  generalize fromOf (nat s) = f at *
  refine ⟨p - f, rfl, by omega, by omega, ?_⟩
  rw [digs_drop _ f 0 (p - f) (by omega), digs_drop _ f (p - f + 1) (min s.size s.size - f) (by omega), show f + 0 = f by omega, show f + (p - f) = p by omega, show f + (p - f + 1) = p + 1 by omega, show f + (min s.size s.size - f) = s.size by omega]
  constructor
  · rintro (h | ⟨h, h'⟩)
    · exact .inl h
    · exact .inr ⟨by omega, h'⟩
  · rintro (h | ⟨h, h'⟩)
    · exact .inl h
    · exact .inr ⟨by omega, h'⟩
/-- The number of the program's digits is the document's. -/
theorem fix_num (s : ByteArray) (P p : Nat) (hr : 0 < s.size) (hp : pointOf (nat s) = p + fromOf (nat s)) (hok : ¬ (digs (nat s) (fromOf (nat s)) (pointOf (nat s)) = false ∨ (pointOf (nat s) < s.size ∧ digs (nat s) (pointOf (nat s) + 1) s.size = false)))
    (A B : ByteArray) (hA : A = (s.extract (fromOf (nat s)) s.size).extract 0 p) (hB : B = (s.extract (fromOf (nat s)) s.size).extract (p + 1) (s.extract (fromOf (nat s)) s.size).size) (K : ByteArray) (hK : K = (B ++ ⟨(Lib.repeatL [48] P).toArray⟩).extract 0 P) :
    A.size = p ∧ (A ++ K).size = p + P ∧ (nat (A ++ K)).all isDig = true ∧ numOf (nat (A ++ K)) 0 (A ++ K).size = fixN (nat s) (pointOf (nat s)) (numOf (nat s) (fromOf (nat s)) (pointOf (nat s) - fromOf (nat s))) P := by
  have hl := nat_length s
  have hle := pointOf_le (nat s)
  have hf := from_le (nat s)
  have e : nat (s.extract (fromOf (nat s)) s.size) = (nat s).drop (fromOf (nat s)) := by rw [nat_extract, List.take_of_length_le (by omega)]
  have d1 : digs (nat s) (fromOf (nat s)) (pointOf (nat s)) = true := by cases h : digs (nat s) (fromOf (nat s)) (pointOf (nat s)); exact absurd (.inl h) hok; rfl
  have d2 : pointOf (nat s) < s.size → digs (nat s) (pointOf (nat s) + 1) s.size = true := fun h => by cases h2 : digs (nat s) (pointOf (nat s) + 1) s.size; exact absurd (.inr ⟨h, h2⟩) hok; rfl
  have nA : nat A = ((nat s).drop (fromOf (nat s))).take p := by rw [hA, nat_extract, e, List.drop_zero]
  have e3 : ((nat s).drop (fromOf (nat s))).take (min s.size s.size - fromOf (nat s)) = (nat s).drop (fromOf (nat s)) := List.take_of_length_le (by rw [List.length_drop]; omega)
  have nK : nat K = keptOf (nat s) (pointOf (nat s)) P := by
    rw [hK, nat_extract, List.drop_zero, nat_append, rep_zero, hB, nat_extract, e, size_extract, e3, List.drop_drop, hp]
    unfold keptOf
    rw [show fromOf (nat s) + (p + 1) = p + fromOf (nat s) + 1 by omega]
  have lA : (nat A).length = p := by rw [nA, List.length_take, List.length_drop]; omega
  have lK : (nat K).length = P := by rw [nK, kept_len]
  have wA : ∀ i, i < p → wd (nat A) i = wd (nat s) (fromOf (nat s) + i) := fun i hi => by
    rw [nA]; unfold wd
    rw [List.getD_eq_getElem?_getD, List.getD_eq_getElem?_getD, List.getElem?_take_of_lt hi, List.getElem?_drop]
  have hdA := digs_all (S := nat s) (by omega) d1
  have sz : (A ++ K).size = p + P := by rw [← nat_length, nat_append, List.length_append, lA, lK]
  refine ⟨by rw [← nat_length]; exact lA, sz, ?_, ?_⟩
  · rw [nat_append, List.all_append, Bool.and_eq_true]
    refine ⟨all_iff.2 fun i hi => ?_, all_iff.2 fun i hi => ?_⟩
    · rw [wA i (by omega)]
      exact hdA _ (by omega) (by omega)
    · rw [nK, kept_wd _ _ _ _ (by omega)]
      by_cases hin : pointOf (nat s) + (i + 1) < (nat s).length
      · rw [if_pos hin]
        exact digs_all (S := nat s) (by omega) (d2 (by omega)) _ (by omega) (by omega)
      · rw [if_neg hin]; rfl
  · rw [sz, nat_append, ← lA]
    refine num_fix (nat s) (nat A) (nat K) (fromOf (nat s)) (pointOf (nat s)) P (by omega) (fun i hi => wA i (by omega)) (fun k hk => ?_) P (Nat.le_refl _)
    rw [nK, kept_wd _ _ _ _ hk]
theorem fix_lt (s : ByteArray) (P : Nat) (hP : P ≤ 9) (h9 : ¬ 9 < pointOf (nat s) - fromOf (nat s)) (hok : ¬ (digs (nat s) (fromOf (nat s)) (pointOf (nat s)) = false ∨ (pointOf (nat s) < s.size ∧ digs (nat s) (pointOf (nat s) + 1) s.size = false))) :
    fixN (nat s) (pointOf (nat s)) (numOf (nat s) (fromOf (nat s)) (pointOf (nat s) - fromOf (nat s))) P < 10 ^ 18 := by
  have hl := nat_length s
  have hle := pointOf_le (nat s)
  have d1 : digs (nat s) (fromOf (nat s)) (pointOf (nat s)) = true := by cases h : digs (nat s) (fromOf (nat s)) (pointOf (nat s)); exact absurd (.inl h) hok; rfl
  have d2 : pointOf (nat s) < s.size → digs (nat s) (pointOf (nat s) + 1) s.size = true := fun h => by cases h2 : digs (nat s) (pointOf (nat s) + 1) s.size; exact absurd (.inr ⟨h, h2⟩) hok; rfl
  have hdA := digs_all (S := nat s) (by omega) d1
  have h1 := numOf_lt (nat s) (fromOf (nat s)) (pointOf (nat s) - fromOf (nat s)) (fun i h h' => hdA i h (by omega))
  have h2 : numOf (nat s) (fromOf (nat s)) (pointOf (nat s) - fromOf (nat s)) < 10 ^ 9 := Nat.lt_of_lt_of_le h1 (Nat.pow_le_pow_right (by omega) (by omega))
  have h3 := fixN_lt (nat s) (pointOf (nat s)) _ h2 (fun i h h' => digs_all (S := nat s) (by omega) (d2 (by omega)) i (by omega) (by omega)) P
  exact Nat.lt_of_lt_of_le h3 (Nat.pow_le_pow_right (by omega) (by omega))
/- The program's fields: numbers with places, the walk. -/
set_option maxRecDepth 100000 in
set_option maxHeartbeats 2000000 in
theorem fld_Fixed (s : ByteArray) (places : Int) (w : World) (hs : s.size ≤ 1000) (hpl : -9223372036854775808 ≤ places ∧ places ≤ 9223372036854775807) :
    Calls Tryz.prog 116 #[.string s, .int .i64 places] w fun e w' => e = .returned (.tuple #[.int .i64 (fixedOf (nat s) places).1, .int .i64 ((fixedOf (nat s) places).2 : Nat)]) ∧ Grew w w' := by
  have hl := nat_length s
  have HR := fun w => Lib.hid (fld_read s w hs)
  by_cases hr : readE (nat s) = 0
  · rw [hr] at HR
    by_cases hP : places < 0 ∨ 9 < places
    · have hI : Hid (fixedOf (nat s) places = (0, 2)) := by show _ = _; unfold fixedOf; rw [if_neg (by omega), if_pos hP]
      have hcase : places < 0 ∨ (¬ places < 0 ∧ 9 < places) := by omega
      clear hl hr hP
      rcases hcase with h | ⟨h, h'⟩
      all_goals
        go_enter Tryz.func116, Tryz.ntmps116
        go_wp2_with (first | (go_at_call 130; refine (HR _).out.mono ?_; rintro e w1 ⟨rfl, rfl⟩))
        go_ret2
        exact ⟨by rw [hI.out]; rfl, Grew.refl _⟩
    · obtain ⟨P, rfl⟩ : ∃ P : Nat, places = P := ⟨places.toNat, by omega⟩
      have hP9 : P ≤ 9 := by omega
      have hz := readE_zero hr
      have hB : Hid (fixedOf (nat s) (P : Nat) = fixedBody (nat s) P (fromOf (nat s))) := fixed_body (nat s) P hr hP9
      have hfle := from_le (nat s)
      obtain ⟨p, hp, hple, hpp, hiff⟩ := fix_bad s (by omega)
      obtain ⟨ecut, epre⟩ := cut_minus s (by omega)
      have HC : ∀ w, Hid _ := fun w => Lib.hid (Tryz.strings_CutPrefix s ⟨#[45]⟩ w)
      rw [show (⟨#[45]⟩ : ByteArray).data.toList = [45] from rfl, ecut, epre] at HC
      have HP := fun w => fld_atPoint (s.extract (fromOf (nat s)) s.size) p w (by rw [size_extract]; omega) hp
      have hN := fun A B K hA hB hK hok => fix_num s P p (by omega) hpp hok A B hA hB K hK
      have hLT := fun h9 hok => fix_lt s P hP9 h9 hok
      have hBB : Hid (fixedBody (nat s) P (fromOf (nat s)) = if digs (nat s) (fromOf (nat s)) (pointOf (nat s)) = false ∨ (pointOf (nat s) < s.size ∧ digs (nat s) (pointOf (nat s) + 1) s.size = false) then (0, 5)
        else if 9 < pointOf (nat s) - fromOf (nat s) then (0, 9)
        else (if fromOf (nat s) = 1 then -(fixN (nat s) (pointOf (nat s)) (numOf (nat s) (fromOf (nat s)) (pointOf (nat s) - fromOf (nat s))) P : Int) else (fixN (nat s) (pointOf (nat s)) (numOf (nat s) (fromOf (nat s)) (pointOf (nat s) - fromOf (nat s))) P : Int), 0)) := by show _ = _; unfold fixedBody; rw [hl]
      have q0 : ¬ (P : Int) < 0 := by omega
      have q1 : ¬ (9 : Int) < P := by omega
      have HRep := fun w => Lib.hid (Tryz.strings_Repeat ⟨#[48]⟩ P w (by omega) (by show 1 * P ≤ _; omega))
      rw [show (⟨#[48]⟩ : ByteArray).data.toList = [48] from rfl] at HRep
      have hZ : (⟨(Lib.repeatL [48] P).toArray⟩ : ByteArray).size = P := by rw [← nat_length, rep_zero, List.length_replicate]
      by_cases hbad : digs (nat s) (fromOf (nat s)) (pointOf (nat s)) = false ∨ (pointOf (nat s) < s.size ∧ digs (nat s) (pointOf (nat s) + 1) s.size = false)
      · have hI : Hid (fixedOf (nat s) (P : Nat) = (0, 5)) := by show _ = _; rw [hB.out, hBB.out, if_pos hbad]
        have e6 : atPt (s.extract (fromOf (nat s)) s.size) p = .tuple #[.string ⟨#[]⟩, .string ⟨#[]⟩, .bool false] := by unfold atPt; rw [if_pos (hiff.2 hbad)]
        rw [e6] at HP
        replace HP := fun w => Lib.hid (HP w)
        generalize decide (fromOf (nat s) = 1) = D at *
        generalize s.extract (fromOf (nat s)) s.size = U at *
        clear hB hBB hl hr hbad e6 hp hple hpp hiff ecut epre hN hLT HRep hZ hfle
        go_enter Tryz.func116, Tryz.ntmps116
        go_wp2_with (first | (go_at_call 130; refine (HR _).out.mono ?_; rintro e w1 ⟨rfl, rfl⟩) | (go_at_call 136; refine (HC _).out.mono ?_; rintro e w1 ⟨rfl, rfl⟩) | (go_at_call 131; refine (HP _).out.mono ?_; rintro e w1 ⟨rfl, g1⟩))
        go_ret2
        exact ⟨by rw [hI.out]; rfl, g1⟩
      · have e6 : atPt (s.extract (fromOf (nat s)) s.size) p = .tuple #[.string ((s.extract (fromOf (nat s)) s.size).extract 0 p), .string ((s.extract (fromOf (nat s)) s.size).extract (p + 1) (s.extract (fromOf (nat s)) s.size).size), .bool true] := by unfold atPt; rw [if_neg (fun h => hbad (hiff.1 h))]
        rw [e6] at HP
        obtain ⟨sA, sAK, dAK, nAK⟩ := hN _ _ _ rfl rfl rfl hbad
        have hI : Hid (fixedOf (nat s) (P : Nat) = if 9 < p then (0, 9) else (if fromOf (nat s) = 1 then -(fixN (nat s) (pointOf (nat s)) (numOf (nat s) (fromOf (nat s)) (pointOf (nat s) - fromOf (nat s))) P : Int) else (fixN (nat s) (pointOf (nat s)) (numOf (nat s) (fromOf (nat s)) (pointOf (nat s) - fromOf (nat s))) P : Int), 0)) := by
          show _ = _
          rw [hB.out, hBB.out, if_neg hbad, show pointOf (nat s) - fromOf (nat s) = p by omega]
        have hlt := fun h9 => hLT h9 hbad
        rw [show pointOf (nat s) - fromOf (nat s) = p by omega] at hlt nAK hI
        have szB : ((s.extract (fromOf (nat s)) s.size).extract (p + 1) (s.extract (fromOf (nat s)) s.size).size).size ≤ 1000 := by rw [size_extract, size_extract]; omega
        clear hB hBB hr hbad e6 hp hiff ecut epre hN hLT
        generalize s.extract (fromOf (nat s)) s.size = U at *
        generalize U.extract 0 p = A at *
        generalize U.extract (p + 1) U.size = B at *
        replace HP := fun w => Lib.hid (HP w)
        generalize (⟨(Lib.repeatL [48] P).toArray⟩ : ByteArray) = Z at *
        have G := Lib.hid (Grew.refl w)
        have hf01 : fromOf (nat s) = 0 ∨ fromOf (nat s) = 1 := by omega
        by_cases h9 : 9 < p
        · have HI : Hid (fixedOf (nat s) (P : Nat) = (0, 9)) := by show _ = _; rw [hI.out, if_pos h9]
          have c1 : (9 : Int) < A.size := by omega
          clear hI hlt nAK dAK sAK HRep hf01
          generalize decide (fromOf (nat s) = 1) = D at *
          go_enter Tryz.func116, Tryz.ntmps116
          go_wp2_with (first | (go_at_call 130; refine (HR _).out.mono ?_; rintro e w1 ⟨rfl, rfl⟩) | (go_at_call 136; refine (HC _).out.mono ?_; rintro e w1 ⟨rfl, rfl⟩) | (go_at_call 131; refine (HP _).out.mono ?_; rintro e w1 ⟨rfl, g1⟩; replace G := Lib.hid (G.out.trans g1); clear g1))
          go_ret2
          exact ⟨by rw [HI.out]; rfl, G.out⟩
        · have c1 : ¬ (9 : Int) < A.size := by omega
          replace hlt := hlt h9
          rw [if_neg h9] at hI
          have HN := fun w => fld_num_dec (A ++ (B ++ Z).extract 0 P) w (by omega) dAK
          rw [nAK] at HN
          generalize fixN (nat s) (pointOf (nat s)) (numOf (nat s) (fromOf (nat s)) p) P = n at *
          unfold told at HN
          rw [if_pos (show n ≤ 9223372036854775807 by omega), decide_eq_true (show n ≤ 9223372036854775807 by omega)] at HN
          have HN2 := fun w => Lib.hid (HN w)
          have sBZ : (B ++ Z).size = B.size + P := by rw [← nat_length, nat_append, List.length_append, nat_length, nat_length, hZ]
          have p0 : (0 : Int) ≤ P := by omega
          have p1 : (P : Int) ≤ ((B ++ Z).size : Nat) := by omega
          have p2 : (P : Int) ≤ (B.size : Int) + (Z.size : Int) := by omega
          have p3 : (B.size : Int) + (Z.size : Int) ≤ 2000 := by omega
          have e1 : IntKind.i64.wrap (-(n : Int)) = -(n : Int) := IntWalk.i64_in _ (by omega)
          clear HN nAK dAK
          rcases hf01 with hf | hf
          · rw [hf] at hI HC
            rw [show decide ((0 : Nat) = 1) = false from rfl] at HC
            have HI : Hid (fixedOf (nat s) (P : Nat) = ((n : Int), 0)) := by show _ = _; rw [hI.out]; rfl
            clear hI hf
            go_enter Tryz.func116, Tryz.ntmps116
            go_wp2_with (first | (go_at_call 130; refine (HR _).out.mono ?_; rintro e w1 ⟨rfl, rfl⟩) | (go_at_call 136; refine (HC _).out.mono ?_; rintro e w1 ⟨rfl, rfl⟩) | (go_at_call 131; refine (HP _).out.mono ?_; rintro e w1 ⟨rfl, g1⟩; replace G := Lib.hid (G.out.trans g1); clear g1) | (go_at_call 27; refine (HRep _).out.mono ?_; rintro e w1 ⟨rfl, g1⟩; replace G := Lib.hid (G.out.trans g1); clear g1) | (go_at_call 135; refine (HN2 _).out.mono ?_; rintro e w1 ⟨rfl, rfl⟩))
            go_ret2
            exact ⟨by rw [HI.out]; rfl, G.out⟩
          · rw [hf] at hI HC
            rw [show decide ((1 : Nat) = 1) = true from rfl] at HC
            have HI : Hid (fixedOf (nat s) (P : Nat) = (-(n : Int), 0)) := by show _ = _; rw [hI.out]; rfl
            clear hI hf
            go_enter Tryz.func116, Tryz.ntmps116
            go_wp2_with (first | (go_at_call 130; refine (HR _).out.mono ?_; rintro e w1 ⟨rfl, rfl⟩) | (go_at_call 136; refine (HC _).out.mono ?_; rintro e w1 ⟨rfl, rfl⟩) | (go_at_call 131; refine (HP _).out.mono ?_; rintro e w1 ⟨rfl, g1⟩; replace G := Lib.hid (G.out.trans g1); clear g1) | (go_at_call 27; refine (HRep _).out.mono ?_; rintro e w1 ⟨rfl, g1⟩; replace G := Lib.hid (G.out.trans g1); clear g1) | (go_at_call 135; refine (HN2 _).out.mono ?_; rintro e w1 ⟨rfl, rfl⟩))
            go_ret2
            exact ⟨by rw [HI.out]; rfl, G.out⟩
  · have hI : Hid (fixedOf (nat s) places = (0, readE (nat s))) := by show _ = _; unfold fixedOf; rw [if_pos hr]
    have hr9 := readE_le (nat s)
    have r0 : ¬ (readE (nat s) : Int) = 0 := by omega
    have r1 : ((readE (nat s) : Int) == 0) = false := by simpa using r0
    clear hl hr
    generalize readE (nat s) = r at *
    go_enter Tryz.func116, Tryz.ntmps116
    go_wp2_with (first | (go_at_call 130; refine (HR _).out.mono ?_; rintro e w1 ⟨rfl, rfl⟩))
    go_ret2
    exact ⟨by rw [hI.out]; rfl, Grew.refl _⟩
end Go.Proofs.YtlcmjedbdopglaaGreatDoor

/-
  The program's fields: two digits, and two, and two; dates; one of some bytes.
-/
import Derived.Test.YtajgicliepenkaaDoorFlpE
import Derived.Test.YtajgicliepenkaaDoorFldV
import Derived.Deep.RegionHeld3
namespace Go.Proofs.YtajgicliepenkaaDoor
open Go.RowKit
set_option linter.unusedVariables false

theorem num_two (s : ByteArray) (k : Nat) (h : k + 2 ≤ s.size) : numOf (nat (s.extract k (k + 2))) 0 (s.extract k (k + 2)).size = twoOf (nat s) k := by
  have e : (s.extract k (k + 2)).size = 2 := by rw [size_extract]; omega
  have w0 : wd (nat (s.extract k (k + 2))) 0 = wd (nat s) k := by
    rw [nat_extract]; unfold wd
    simp [List.getD_eq_getElem?_getD, List.getElem?_drop]
  have w1 : wd (nat (s.extract k (k + 2))) 1 = wd (nat s) (k + 1) := by
    rw [nat_extract]; unfold wd
    simp [List.getD_eq_getElem?_getD, List.getElem?_drop]
  rw [e]
  show (0 * 10 + (wd _ (0 + 0) - 48)) * 10 + (wd _ (0 + 1) - 48) = _
  rw [show 0 + 0 = 0 from rfl, show 0 + 1 = 1 from rfl, w0, w1]
  unfold twoOf
  omega
theorem all_part {S : List Nat} {p : Nat → Bool} (h : S.all p = true) (a b : Nat) : ((S.take b).drop a).all p = true := by
  rw [List.all_eq_true] at h ⊢
  exact fun x hx => h x (List.mem_of_mem_take (List.mem_of_mem_drop hx))
set_option maxHeartbeats 1000000 in
theorem fld_two (s : ByteArray) (k : Nat) (a : Addr) (w : World) (hs : s.size ≤ 1000) (hk : k + 2 ≤ s.size) (hp : (nat s).all isDig = true) (ha : w.cell? a = some (.string s)) :
    Calls Tryd.prog 74 #[.int .i64 (k : Nat), .pointer (some a)] w fun e w' => e = .returned (.int .i64 (twoOf (nat s) k : Nat)) ∧ Grew w w' := by
  have HN := fun w => fld_num_dec (s.extract k (k + 2)) w (by rw [size_extract]; omega) (by rw [nat_extract]; exact all_part hp _ _)
  rw [num_two s k hk] at HN
  have hd : ∀ i, i < s.size → isDig (wd (nat s) i) = true := fun i hi => all_iff.1 hp i (by rw [nat_length]; exact hi)
  have hb := two_lt (nat s) k (hd k (by omega)) (hd (k + 1) (by omega))
  unfold told at HN
  generalize twoOf (nat s) k = n at *
  rw [if_pos (by omega), decide_eq_true (by omega)] at HN
  replace HN := fun w => Lib.hid (HN w)
  have p1 : (0 : Int) ≤ k := by omega
  have p2 : (k : Int) ≤ s.size := by omega
  have p3 : IntKind.i64.wrap ((k : Int) + 2) = ((k + 2 : Nat) : Int) := by rw [IntWalk.i64_in _ (by omega)]; simp
  have p4 : ((k + 2 : Nat) : Int) ≤ s.size := by omega
  have p5 : (k : Int) ≤ ((k + 2 : Nat) : Int) := by omega
  have p6 : (0 : Int) ≤ ((k + 2 : Nat) : Int) := by omega
  have hx : Hid (∀ w', Grew w w' → w'.cell? a = some (.string s)) := fun w' g => kept_cell ha g
  obtain ⟨m, hm⟩ : ∃ m, k + 2 = m := ⟨_, rfl⟩
  rw [hm] at HN p3 p4 p5 p6
  clear hd hm hp hk
  go_enter Tryd.func74, Tryd.ntmps74
  have ha2 := ha
  go_wp2_with (first | (go_at_call 68; refine (HN _).out.mono ?_; rintro e w1 ⟨rfl, rfl⟩))
  go_ret
  exact ⟨rfl, Grew.refl _⟩

/-- What six digits are, by two. -/
def sixOf (s : ByteArray) : Value := if s.size = 6 ∧ (nat s).all isDig = true then .tuple #[.int .i64 (twoOf (nat s) 0 : Nat), .int .i64 (twoOf (nat s) 2 : Nat), .int .i64 (twoOf (nat s) 4 : Nat), .bool true] else .tuple #[.int .i64 0, .int .i64 0, .int .i64 0, .bool false]
set_option maxHeartbeats 1000000 in
theorem fld_six (s : ByteArray) (w : World) (hs : s.size ≤ 1000) :
    Calls Tryd.prog 65 #[.string s] w fun e w' => e = .returned (sixOf s) ∧ Grew w w' := by
  have HO := fun w => Lib.hid (fld_allOf ⟨#[48, 49, 50, 51, 52, 53, 54, 55, 56, 57]⟩ w)
  have HA := fun a w h => Lib.hid (fld_digs s a w hs h)
  have KS : ∀ w', Grew (w.alloc (.cells #[.string s] 9)) w' → w'.cell? ⟨w.heap.size, 0, none⟩ = some (.string s) := fun w' g => kept_cell (by simp [go_sem]) g
  have G : Grew (w.alloc (.cells #[.string s] 9)) (w.alloc (.cells #[.string s] 9)).drew := (Grew.refl _).drew
  by_cases h6 : s.size = 6
  · have c1 : ((s.size : Int) != 6) = false := by rw [h6]; rfl
    cases hd : (nat s).all isDig
    · have HI : Hid (sixOf s = .tuple #[.int .i64 0, .int .i64 0, .int .i64 0, .bool false]) := by show _ = _; unfold sixOf; rw [if_neg (by rw [hd]; simp)]
      rw [hd] at HA
      clear hd h6
      go_enter Tryd.func65, Tryd.ntmps65
      go_wp2_with fail
      go_region_held3 (fun w' => w'.cell? ⟨w.heap.size, 0, none⟩ = some (.string s)) (exact KS _ G) (first | (go_at_call 66; refine (HO _).out.mono ?_; rintro e w1 ⟨q, rfl, hq, g1⟩; replace G := G.trans g1; clear g1) | (go_at_call 75; (with_reducible refine (HA q _ hq).out.mono ?_); rintro e w2 ⟨rfl, g1⟩; replace G := G.trans g1; clear g1))
      go_wp2_with fail
      refine bodyPost_ret (by simp [results, Tryd.results65, go_sem]; try rfl) rfl ?_
      exact ⟨by rw [HI.out], ((Grew.refl w).alloc _).trans G⟩
    · have HI : Hid (sixOf s = .tuple #[.int .i64 (twoOf (nat s) 0 : Nat), .int .i64 (twoOf (nat s) 2 : Nat), .int .i64 (twoOf (nat s) 4 : Nat), .bool true]) := by show _ = _; unfold sixOf; rw [if_pos ⟨h6, hd⟩]
      have HT0 : ∀ w1 : World, w1.cell? ⟨w.heap.size, 0, none⟩ = some (.string s) → Hid (Calls Tryd.prog 74 #[.int .i64 0, .pointer (some ⟨w.heap.size, 0, none⟩)] w1 fun e w' => e = .returned (.int .i64 (twoOf (nat s) 0 : Nat)) ∧ Grew w1 w') := fun w1 h => Lib.hid (fld_two s 0 _ w1 hs (by omega) hd h)
      have HT2 : ∀ w1 : World, w1.cell? ⟨w.heap.size, 0, none⟩ = some (.string s) → Hid (Calls Tryd.prog 74 #[.int .i64 2, .pointer (some ⟨w.heap.size, 0, none⟩)] w1 fun e w' => e = .returned (.int .i64 (twoOf (nat s) 2 : Nat)) ∧ Grew w1 w') := fun w1 h => Lib.hid (fld_two s 2 _ w1 hs (by omega) hd h)
      have HT4 : ∀ w1 : World, w1.cell? ⟨w.heap.size, 0, none⟩ = some (.string s) → Hid (Calls Tryd.prog 74 #[.int .i64 4, .pointer (some ⟨w.heap.size, 0, none⟩)] w1 fun e w' => e = .returned (.int .i64 (twoOf (nat s) 4 : Nat)) ∧ Grew w1 w') := fun w1 h => Lib.hid (fld_two s 4 _ w1 hs (by omega) hd h)
      rw [hd] at HA
      generalize twoOf (nat s) 0 = T0 at *
      generalize twoOf (nat s) 2 = T2 at *
      generalize twoOf (nat s) 4 = T4 at *
      clear hd h6
      go_enter Tryd.func65, Tryd.ntmps65
      go_wp2_with fail
      go_region_held3 (fun w' => w'.cell? ⟨w.heap.size, 0, none⟩ = some (.string s)) (exact KS _ G) (first | (go_at_call 66; refine (HO _).out.mono ?_; rintro e w1 ⟨q, rfl, hq, g1⟩; replace G := G.trans g1; clear g1) | (go_at_call 75; (with_reducible refine (HA q _ hq).out.mono ?_); rintro e w2 ⟨rfl, g1⟩; replace G := G.trans g1; clear g1))
      go_wp2_with (first | (go_at_call 74; (first | (with_reducible refine (HT0 _ (KS _ G)).out.mono ?_) | (with_reducible refine (HT2 _ (KS _ G)).out.mono ?_) | (with_reducible refine (HT4 _ (KS _ G)).out.mono ?_)); rintro e w3 ⟨rfl, g1⟩; replace G := G.trans g1; clear g1))
      refine bodyPost_ret (by simp [results, Tryd.results65, go_sem]; try rfl) rfl ?_
      exact ⟨by rw [HI.out], ((Grew.refl w).alloc _).trans G⟩
  · have HI : Hid (sixOf s = .tuple #[.int .i64 0, .int .i64 0, .int .i64 0, .bool false]) := by show _ = _; unfold sixOf; rw [if_neg (fun h => h6 h.1)]
    have c1 : ((s.size : Int) != 6) = true := by simp; omega
    have c2 : ((s.size : Int) == 6) = false := by simp; omega
    have c3 : ¬ (s.size : Int) = 6 := by omega
    clear h6
    go_enter Tryd.func65, Tryd.ntmps65
    go_wp2_with fail
    have hc := KS _ (Grew.refl _)
    go_quiet (fail)
    go_wp2_with fail
    refine bodyPost_ret (by simp [results, Tryd.results65, go_sem]; try rfl) rfl ?_
    exact ⟨by rw [HI.out], ((Grew.refl w).alloc _).drewN _⟩
end Go.Proofs.YtajgicliepenkaaDoor

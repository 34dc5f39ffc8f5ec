/-
  Contracts of package stamp.
-/
import Derived.Test.YtodpoecefbgcpaaSatB
import Derived.Handy
import Derived.OwnWalk
import Derived.Deep.RegionHeld3
namespace Go.Proofs.Ytodpoecefbgcpaa
open Go.RowKit
set_option linter.unusedVariables false

/-- The stamp of a second of any era and of its nanoseconds. -/
def stampOf (sec ns : Int) : Int := sec % 4294967296 * 4294967296 + ns * 4294967296 / 1000000000
/-- The short format of nanoseconds. -/
def shortOf (ns : Int) : Int := if ns ≤ 0 then 0 else min ((ns * 65536 + 999999999) / 1000000000) 4294967295
/-- The nanoseconds of a fraction. -/
def nsOf (f : Int) : Int := min ((f * 1000000000 + 4294967295) / 4294967296) 999999999
/-- How far the nearest second of those is from the pivot. -/
def stepOf (low pivot : Int) : Int := (low - pivot + 2147483648) % 4294967296 - 2147483648
/-- The nearest second within int64. -/
def nearOf (low pivot : Int) : Int :=
  if 9223372036854775807 < pivot + stepOf low pivot then pivot + stepOf low pivot - 4294967296
  else if pivot + stepOf low pivot < -9223372036854775808 then pivot + stepOf low pivot + 4294967296 else pivot + stepOf low pivot

theorem down_ns (ns : Int) (h0 : 0 ≤ ns) (h1 : ns ≤ 999999999) : downOf ns 4294967296 1000000000 = ns * 4294967296 / 1000000000 ∧ 0 ≤ ns * 4294967296 / 1000000000 ∧ ns * 4294967296 / 1000000000 ≤ 4294967295 := by
  have a : 0 ≤ ns * 4294967296 / 1000000000 ∧ ns * 4294967296 / 1000000000 ≤ 4294967295 := by omega
  refine ⟨?_, a⟩
  rw [downOf, if_neg (by omega), held_in _ (by omega) (by omega)]

theorem or_stamp (a b : Int) (ha : 0 ≤ a ∧ a ≤ 4294967295) (hb : 0 ≤ b ∧ b ≤ 4294967295) : bits BinOp.or IntKind.u64 (a * 4294967296) b = a * 4294967296 + b := by
  obtain ⟨a, rfl⟩ := Int.eq_ofNat_of_zero_le ha.1
  obtain ⟨b, rfl⟩ := Int.eq_ofNat_of_zero_le hb.1
  have e : ((a : Int) * 4294967296) = ((a * 4294967296 : Nat) : Int) := by simp
  rw [e, bits_or_u64_nat _ _ (by omega) (by omega)]
  have := Nat.two_pow_add_eq_or_of_lt (i := 32) (b := b) (show b < 2 ^ 32 by omega) a
  rw [Nat.mul_comm, show (2 : Nat) ^ 32 = 4294967296 from rfl] at this
  omega

theorem stamp_Of_bad (sec ns : Int) (w : World) (hs : -9223372036854775808 ≤ sec ∧ sec ≤ 9223372036854775807) (hn : -9223372036854775808 ≤ ns ∧ ns ≤ 9223372036854775807) (hb : ns < 0 ∨ 999999999 < ns) :
    Calls Try.prog 5 #[.int .i64 sec, .int .i64 ns] w fun e w' => e = .returned (.tuple #[.int .u64 0, .int .i64 2]) ∧ Grew w w' := by
  rcases hb with hb | hb
  all_goals
    go_enter Try.func5, Try.ntmps5
    go_wp2
    go_ret2
    exact ⟨rfl, Grew.refl _⟩

theorem stamp_Of (sec ns : Int) (w : World) (hs : -9223372036854775808 ≤ sec ∧ sec ≤ 9223372036854775807) (hn : 0 ≤ ns ∧ ns ≤ 999999999) :
    Calls Try.prog 5 #[.int .i64 sec, .int .i64 ns] w fun e w' => e = .returned (.tuple #[.int .u64 (stampOf sec ns), .int .i64 0]) ∧ Grew w w' := by
  have hd := down_ns ns hn.1 hn.2
  obtain ⟨F, hF⟩ : ∃ F, ns * 4294967296 / 1000000000 = F := ⟨_, rfl⟩
  have HS : Hid (stampOf sec ns = sec % 4294967296 * 4294967296 + F) := by show _ = _; rw [stampOf, hF]
  rw [hF] at hd
  obtain ⟨hd, hF0, hF1⟩ := hd
  clear hF
  go_enter Try.func5, Try.ntmps5
  go_wp2_with (go_at_call 16; refine (sat_Down _ _ _ _ (by omega) (by omega) (by omega)).mono ?_; rw [hd]; rintro e w' ⟨rfl, hg⟩)
  go_ret2
  refine ⟨?_, hg⟩
  have e1 : bits BinOp.or IntKind.u64 (IntKind.u64.wrap (IntKind.u64.wrap sec * 4294967296)) F = sec % 4294967296 * 4294967296 + F := by
    rw [show IntKind.u64.wrap (IntKind.u64.wrap sec * 4294967296) = sec % 4294967296 * 4294967296 by simp only [IntKind.wrap_u64]; omega, or_stamp _ _ (by omega) (by omega)]
  show Ending.returned (Value.tuple #[.int .u64 (bits BinOp.or IntKind.u64 (IntKind.u64.wrap (IntKind.u64.wrap sec * 4294967296)) F), .int .i64 0]) = _
  rw [HS.out, e1]

theorem cells_two {W w' : World} {p q : Addr} {a b : Value} (g : Grew W w') (h1 : W.cell? p = some a) (h2 : W.cell? q = some b) : w'.cell? p = some a ∧ w'.cell? q = some b :=
  ⟨(g.cell (World.block_lt_of_cell? W _ h1)).trans h1, (g.cell (World.block_lt_of_cell? W _ h2)).trans h2⟩

theorem boxes_two (w : World) (x y : Value) (E : TypeId) : ((w.alloc (.cells #[x] E)).alloc (.cells #[y] E)).cell? ⟨w.heap.size, 0, none⟩ = some x ∧ ((w.alloc (.cells #[x] E)).alloc (.cells #[y] E)).cell? ⟨w.heap.size + 1, 0, none⟩ = some y ∧ ((w.alloc (.cells #[x] E)).alloc (.cells #[y] E)).frozen? ⟨w.heap.size + 1, 0, none⟩ = false := by
  refine ⟨?_, ?_, ?_⟩ <;> simp [go_sem]

theorem stamp_near1 (p0 p1 : Addr) (pv st : Int) (w : World) (hp : -9223372036854775808 ≤ pv ∧ pv ≤ 9223372036854775807) (hs : -2147483648 ≤ st ∧ st ≤ 2147483647)
    (c0 : w.cell? p0 = some (.int .i64 pv)) (c1 : w.cell? p1 = some (.int .i64 st)) :
    Calls Try.prog 43 #[.pointer (some p0), .pointer (some p1)] w fun e w' => e = .returned (.bool (decide (pv + st < -9223372036854775808 ∨ 9223372036854775807 < pv + st))) ∧ Grew w w' := by
  obtain ⟨X, hX⟩ : ∃ X, held (pv + st) = X := ⟨_, rfl⟩
  have bX := held_le (pv + st)
  obtain ⟨Y, hY⟩ : ∃ Y, held (X - pv) = Y := ⟨_, rfl⟩
  rw [hX] at bX
  have H : Hid ((Y != st) = decide (pv + st < -9223372036854775808 ∨ 9223372036854775807 < pv + st)) := by
    show _ = _
    rw [Bool.eq_iff_iff]
    simp only [bne_iff_ne, decide_eq_true_eq]
    subst hX hY
    unfold held
    (repeat' split) <;> omega
  go_enter Try.func43, Try.ntmps43
  go_wp2_with fail
  have G : Grew w w.drew := (Grew.refl w).drew
  go_region_held3 (fun w' => w'.cell? p0 = some (.int .i64 pv) ∧ w'.cell? p1 = some (.int .i64 st)) (exact cells_two G c0 c1) (first | (go_at_call 45; refine (sat_Add _ _ _ (by omega) (by omega)).mono ?_; rintro e w' ⟨rfl, rfl⟩) | (go_at_call 44; refine (sat_Sub _ _ _ (by omega) (by omega)).mono ?_; rintro e w' ⟨rfl, rfl⟩))
  go_wp2
  go_ret
  refine ⟨?_, G⟩
  rw [← H.out]
  rfl

theorem step_eq (low pv : Int) (hl : 0 ≤ low ∧ low ≤ 4294967295) : wrap32 ((low - pv) % 4294967296) = stepOf low pv := by
  simp only [wrap32, stepOf]
  omega

theorem stamp_nearest (low pv : Int) (w : World) (hl : 0 ≤ low ∧ low ≤ 4294967295) (hp : -9223372036854775808 ≤ pv ∧ pv ≤ 9223372036854775807) :
    Calls Try.prog 28 #[.int .u32 low, .int .i64 pv] w fun e w' => e = .returned (.int .i64 (nearOf low pv)) ∧ Grew w w' := by
  obtain ⟨s, hs⟩ : ∃ s, stepOf low pv = s := ⟨_, rfl⟩
  have bs : -2147483648 ≤ s ∧ s ≤ 2147483647 := by rw [← hs]; unfold stepOf; omega
  have HS : Hid (stepOf low pv = s) := hs
  have e := step_eq low pv hl
  rw [hs] at e
  have e2 : wrap64 s = s := IntWalk.wrap64_in _ (by omega)
  clear hs
  have hN : (pv + s < -9223372036854775808 → nearOf low pv = pv + (s + 4294967296)) ∧ (9223372036854775807 < pv + s → nearOf low pv = pv + (s - 4294967296)) ∧ (-9223372036854775808 ≤ pv + s ∧ pv + s ≤ 9223372036854775807 → nearOf low pv = pv + s) := by
    unfold nearOf
    rw [HS.out]
    refine ⟨fun h => ?_, fun h => ?_, fun h => ?_⟩ <;> (repeat' split) <;> omega
  have HN := Lib.hid hN
  clear hN
  rcases (show (pv + s < -9223372036854775808 ∨ 9223372036854775807 < pv + s) ∨ (-9223372036854775808 ≤ pv + s ∧ pv + s ≤ 9223372036854775807) by omega) with h | h
  · have hc : decide (pv + s < -9223372036854775808 ∨ 9223372036854775807 < pv + s) = true := by simp; omega
    rcases h with h | h
    all_goals
      go_enter Try.func28, Try.ntmps28
      go_wp2_with (go_at_call 43; obtain ⟨j0, j1, j2⟩ := boxes_two w (.int .i64 pv) (.int .i64 s) 2; refine (stamp_near1 _ _ pv s _ hp bs j0 j1).mono ?_; rw [hc]; rintro e w' ⟨rfl, hg⟩; obtain ⟨k0, k1⟩ := cells_two hg j0 j1; have k2 := (hg.frozen (World.block_lt_of_cell? _ _ j1)).trans j2; have k3 := hg.size; replace hg := Grew.trans (((Grew.refl w).alloc _).alloc _) hg; clear j0 j1 j2)
      go_ret
      first
      | exact ⟨ret_int (HN.out.1 h).symm, hg.setCell (by simp) _⟩
      | exact ⟨ret_int (HN.out.2.1 h).symm, hg.setCell (by simp) _⟩
  · have hc : decide (pv + s < -9223372036854775808 ∨ 9223372036854775807 < pv + s) = false := by simp; omega
    go_enter Try.func28, Try.ntmps28
    go_wp2_with (go_at_call 43; obtain ⟨j0, j1, j2⟩ := boxes_two w (.int .i64 pv) (.int .i64 s) 2; refine (stamp_near1 _ _ pv s _ hp bs j0 j1).mono ?_; rw [hc]; rintro e w' ⟨rfl, hg⟩; obtain ⟨k0, k1⟩ := cells_two hg j0 j1; have k2 := (hg.frozen (World.block_lt_of_cell? _ _ j1)).trans j2; have k3 := hg.size; replace hg := Grew.trans (((Grew.refl w).alloc _).alloc _) hg; clear j0 j1 j2)
    go_ret
    exact ⟨ret_int (HN.out.2.2 h).symm, hg⟩

theorem stamp_Split (low f pv : Int) (w : World) (hl : 0 ≤ low ∧ low ≤ 4294967295) (hf : 0 ≤ f ∧ f ≤ 4294967295) (hp : -9223372036854775808 ≤ pv ∧ pv ≤ 9223372036854775807) :
    Calls Try.prog 14 #[.int .u64 (low * 4294967296 + f), .int .i64 pv] w fun e w' => e = .returned (.tuple #[.int .i64 (nearOf low pv), .int .i64 (nsOf f)]) ∧ Grew w w' := by
  have c : upOf f 1000000000 4294967296 = (f * 1000000000 + 4294967295) / 4294967296 := by rw [upOf, if_neg (by omega), held_in _ (by omega) (by omega)]; rfl
  obtain ⟨s, hs⟩ : ∃ s, low * 4294967296 + f = s := ⟨_, rfl⟩
  have e1 : s % 4294967296 = f := by omega
  have e2 : s / 4294967296 = low := by omega
  have b : 0 ≤ s ∧ s ≤ 18446744073709551615 := by omega
  rw [hs]
  have HN : Hid (min ((f * 1000000000 + 4294967295) / 4294967296) 999999999 = nsOf f) := rfl
  clear hs
  go_enter Try.func14, Try.ntmps14
  go_wp2_with (first | (go_at_call 24; refine (sat_Up _ _ _ _ (by omega) (by omega) (by omega)).mono ?_; rw [c]; rintro e w' ⟨rfl, hg⟩) | (go_at_call 28; refine (stamp_nearest low pv _ hl hp).mono ?_; rintro e w2 ⟨rfl, hg2⟩))
  go_ret2
  exact ⟨rfl, hg.trans hg2⟩

theorem stamp_Era (sec : Int) (w : World) (hs : -9223372036854775808 ≤ sec ∧ sec ≤ 9223372036854775807) :
    Calls Try.prog 7 #[.int .i64 sec] w fun e w' => e = .returned (.int .i64 (sec / 4294967296)) ∧ w = w' := by
  have c : sec / 2 ^ (32 : Int).toNat = sec / 4294967296 := rfl
  go_enter Try.func7, Try.ntmps7
  go_wp2_with (go_at_call 23; refine (sat_Right _ _ _ hs (by omega)).mono ?_; rw [c]; rintro e w' ⟨rfl, rfl⟩)
  go_ret
  exact ⟨rfl, rfl⟩

theorem short_eq (ns : Int) : clampOf (upOf ns 65536 1000000000) 0 4294967295 = shortOf ns := by
  rw [upOf, if_neg (by omega)]
  unfold clampOf shortOf held
  (repeat' split) <;> omega

theorem stamp_Short (ns : Int) (w : World) (hs : -9223372036854775808 ≤ ns ∧ ns ≤ 9223372036854775807) :
    Calls Try.prog 9 #[.int .i64 ns] w fun e w' => e = .returned (.int .u32 (shortOf ns)) ∧ Grew w w' := by
  have c := short_eq ns
  have hb : 0 ≤ shortOf ns ∧ shortOf ns ≤ 4294967295 := by unfold shortOf; split <;> omega
  have hu := upOf_le ns 65536 1000000000
  go_enter Try.func9, Try.ntmps9
  go_wp2_with (first | (go_at_call 24; refine (sat_Up _ _ _ _ hs (by omega) (by omega)).mono ?_; rintro e w' ⟨rfl, hg⟩) | (go_at_call 25; refine (sat_Clamp _ _ _ _ hu (by omega) (by omega)).mono ?_; rw [c]; rintro e w2 ⟨rfl, rfl⟩))
  go_ret
  exact ⟨rfl, hg⟩

theorem stamp_ShortNs (s : Int) (w : World) (hs : 0 ≤ s ∧ s ≤ 4294967295) :
    Calls Try.prog 11 #[.int .u32 s] w fun e w' => e = .returned (.int .i64 (s * 1000000000 / 65536)) ∧ Grew w w' := by
  have c : downOf s 1000000000 65536 = s * 1000000000 / 65536 := by rw [downOf, if_neg (by omega), held_in _ (by omega) (by omega)]
  go_enter Try.func11, Try.ntmps11
  go_wp2_with (go_at_call 16; refine (sat_Down _ _ _ _ (by omega) (by omega) (by omega)).mono ?_; rw [c]; rintro e w' ⟨rfl, hg⟩)
  go_ret
  exact ⟨rfl, hg⟩
end Go.Proofs.Ytodpoecefbgcpaa

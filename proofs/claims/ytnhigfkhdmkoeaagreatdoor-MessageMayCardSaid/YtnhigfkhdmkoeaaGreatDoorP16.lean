/-
  Messages: moments out of what was told; the program's momentOfFix, momentOfValues.
  Messages: the program's function fields: whether a sentence tells a second, and which one.
  Messages: the program's function fields: whether the values of a UBX or SiRF message tell a second, and which one.
  Messages: the program's function fields: UTC seconds of values; RMC's second.
  Messages: the program's Of, out of what is read of a frame, and its kind's two functions.
-/
import Derived.Test.YtnhigfkhdmkoeaaGreatDoorP05
import Derived.Deep.RegionHeld3
import Derived.Deep.RegionHeldLaw
import Derived.OpenShut
import Derived.LoopTactic
import Derived.Deep.LoopGhost
import Derived.StillTailTactics
import Derived.Deep.QuietTactic
import Derived.BigQuiet
import Derived.Deep.CutBlock
import Derived.Deep.DeepCutAuto
import Derived.Test.YtnhigfkhdmkoeaaGreatDoorP15

namespace Go.Proofs.YtnhigfkhdmkoeaaGreatDoor
open Go.RowKit
set_option linter.unusedVariables false

-- [VALUES
set_option maxRecDepth 100000 in
set_option maxHeartbeats 4000000 in
theorem msg_momentOfValues (v : Value) (zs : List Int) (w : World) (hr : RowZ .i64 w v zs) (hn : 6 ≤ zs.length) :
    Calls Tryz.prog 58 #[v] w fun e w' => e = .returned (moment (zi zs 0) (zi zs 1) (zi zs 2) (zi zs 3) (zi zs 4) (zi zs 5)) ∧ Grew w w' := by
  obtain ⟨A, c, rfl, hc, hr⟩ := hr
  obtain ⟨b, o, rfl, hb, hcell⟩ := hr (by omega)
  have k0 := hcell 0 (by omega); have k1 := hcell 1 (by omega); have k2 := hcell 2 (by omega); have k3 := hcell 3 (by omega); have k4 := hcell 4 (by omega); have k5 := hcell 5 (by omega)
  rw [Nat.add_zero] at k0
  clear hcell hr
  generalize zi zs 0 = z0 at *
  generalize zi zs 1 = z1 at *
  generalize zi zs 2 = z2 at *
  generalize zi zs 3 = z3 at *
  generalize zi zs 4 = z4 at *
  generalize zi zs 5 = z5 at *
  generalize zs.length = n at *
  clear zs
  go_enter Tryz.func58, Tryz.ntmps58
  go_upto_region 1 with fail
  obtain ⟨W, hW, g0, x, f⟩ := six_wet w (.int .i64 0) (.int .i64 0) (.int .i64 0) (.int .i64 0) (.int .i64 0) (.int .i64 0) 75
  rw [hW]
  clear hW
  have q0 := (g0.cell hb).trans k0; have q1 := (g0.cell hb).trans k1; have q2 := (g0.cell hb).trans k2; have q3 := (g0.cell hb).trans k3; have q4 := (g0.cell hb).trans k4; have q5 := (g0.cell hb).trans k5
  clear k0 k1 k2 k3 k4 k5
  have d0 : 0 < n := by omega
  have d1 : (1 : Int) < n := by omega
  have d2 : (2 : Int) < n := by omega
  have d3 : (3 : Int) < n := by omega
  have d4 : (4 : Int) < n := by omega
  have d5 : (5 : Int) < n := by omega
  clear hn
  go_still_tail 19, (by kernel_rfl)
  change wpList _ _ _ _ _ W.drew
  have gd := (Grew.refl W).drew
  replace x := x.grew gd
  replace f := f.grew x.1 gd
  replace g0 := g0.trans gd
  generalize W.drew = W2 at *
  obtain ⟨x0, c0, c1, c2, c3, c4, c5⟩ := x
  obtain ⟨f0, f1, f2, f3, f4, f5⟩ := f
  go_wp2_with fail
  refine bodyPost_ret (by simp [results, Tryz.results58, go_sem, c0, c1, c2, c3, c4, c5]; try rfl) rfl ?_
  exact ⟨rfl, six_put _ g0 (Nat.le_refl _) _ _ _ _ _ _⟩
-- VALUES]
-- [FIX
/-- What a sentence tells of a second, as cells. -/
structure FixC (C : Array Value) (v ht hd wh : Bool) (h i s d m y : Int) : Prop where
  c1 : C[1]? = some (.bool v)
  c2 : C[2]? = some (.bool ht)
  c3 : C[3]? = some (.bool hd)
  c5 : C[5]? = some (.int .i64 h)
  c6 : C[6]? = some (.int .i64 i)
  c7 : C[7]? = some (.int .i64 s)
  c8 : C[8]? = some (.bool wh)
  c9 : C[9]? = some (.int .i64 d)
  c10 : C[10]? = some (.int .i64 m)
  c11 : C[11]? = some (.int .i64 y)
theorem cell_newC (w : World) (C : Array Value) (E : TypeId) (k : Nat) (v : Value) (h : C[k]? = some v) : (w.alloc (.cells C E)).cell? ⟨w.heap.size, k, none⟩ = some v := by
  rw [cell_of_row _ _ k C E (0, 0) (heap_alloc_new _ _)]; exact h
theorem fix_worlds (w : World) (C : Array Value) (a b c d e f : Value) (E T : TypeId) : ∃ W, (w.alloc (.cells C E)).alloc (.cells #[a, b, c, d, e, f] T) = W ∧ Grew w W ∧ (∀ k v, C[k]? = some v → W.cell? ⟨w.heap.size, k, none⟩ = some v) ∧ Six W (w.heap.size + 1) a b c d e f ∧ Wet W (w.heap.size + 1) := by
  refine ⟨_, rfl, ((Grew.refl w).alloc _).alloc _, fun k v h => ?_, ⟨by simp, ?_, ?_, ?_, ?_, ?_, ?_⟩, ?_, ?_, ?_, ?_, ?_, ?_⟩
  · exact ((Grew.refl _).alloc _ |>.cell (p := ⟨w.heap.size, k, none⟩) (by simp)).trans (cell_newC w C E k v h)
  all_goals simp [go_sem]
set_option maxRecDepth 100000 in
set_option maxHeartbeats 4000000 in
theorem msg_momentOfFix (C : Array Value) (v ht hd wh : Bool) (h i s d m y : Int) (w : World) (hC : FixC C v ht hd wh h i s d m y) :
    Calls Tryz.prog 56 #[.agg C] w fun e w' => e = .returned (moment y m d h i s) ∧ Grew w w' := by
  go_enter Tryz.func56, Tryz.ntmps56
  go_upto_region 1 with fail
  obtain ⟨W, hW, g0, hc, x, f⟩ := fix_worlds w C (.int .i64 0) (.int .i64 0) (.int .i64 0) (.int .i64 0) (.int .i64 0) (.int .i64 0) 42 75
  rw [hW]
  clear hW
  have d5 := hc _ _ hC.c5; have d6 := hc _ _ hC.c6; have d7 := hc _ _ hC.c7; have d9 := hc _ _ hC.c9; have d10 := hc _ _ hC.c10; have d11 := hc _ _ hC.c11
  clear hc hC
  obtain ⟨x0, c0, c1, c2, c3, c4, c5⟩ := x
  obtain ⟨f0, f1, f2, f3, f4, f5⟩ := f
  go_wp2_with fail
  refine bodyPost_ret (by simp [results, Tryz.results56, go_sem, c0, c1, c2, c3, c4, c5]; try rfl) rfl ?_
  exact ⟨rfl, six_put _ g0 (by omega) _ _ _ _ _ _⟩
-- FIX]
end Go.Proofs.YtnhigfkhdmkoeaaGreatDoor

namespace Go.Proofs.YtnhigfkhdmkoeaaGreatDoor
open Go.RowKit
set_option linter.unusedVariables false

theorem box_world (w : World) (C : Array Value) (E : TypeId) : ∃ W, w.alloc (.cells C E) = W ∧ Grew w W ∧ (∀ k v, C[k]? = some v → W.cell? ⟨w.heap.size, k, none⟩ = some v) :=
  ⟨_, rfl, (Grew.refl w).alloc _, fun k v h => cell_newC w C E k v h⟩
-- [RMCH
set_option maxRecDepth 100000 in
set_option maxHeartbeats 4000000 in
theorem msg_rmcHolds (C : Array Value) (v ht hd wh : Bool) (h i s d m y : Int) (w : World) (hC : FixC C v ht hd wh h i s d m y) :
    Calls Tryz.prog 21 #[.agg C] w fun e w' => e = .returned (.bool (v && ht && hd && wh)) ∧ Grew w w' := by
  cases v
  case' true => cases ht
  case' true.true => cases hd
  case' true.true.true => cases wh
  all_goals
    go_enter Tryz.func21, Tryz.ntmps21
    go_upto_region 1 with fail
    obtain ⟨W, hW, g0, hc⟩ := box_world w C 44
    rw [hW]
    clear hW
    have d1 := hc _ _ hC.c1; have d2 := hc _ _ hC.c2; have d3 := hc _ _ hC.c3; have d8 := hc _ _ hC.c8
    clear hc hC
    go_wp2_with fail
    go_ret
    exact ⟨rfl, g0⟩
-- RMCH]
-- [ZDAH
set_option maxRecDepth 100000 in
set_option maxHeartbeats 4000000 in
theorem msg_zdaHolds (C : Array Value) (v ht hd wh : Bool) (h i s d m y : Int) (w : World) (hC : FixC C v ht hd wh h i s d m y) :
    Calls Tryz.prog 23 #[.agg C] w fun e w' => e = .returned (.bool (v && wh)) ∧ Grew w w' := by
  cases v
  case' true => cases wh
  all_goals
    go_enter Tryz.func23, Tryz.ntmps23
    go_upto_region 1 with fail
    obtain ⟨W, hW, g0, hc⟩ := box_world w C 44
    rw [hW]
    clear hW
    have d1 := hc _ _ hC.c1; have d8 := hc _ _ hC.c8
    clear hc hC
    go_wp2_with fail
    go_ret
    exact ⟨rfl, g0⟩
-- ZDAH]
/-- The first part of a content: what a sentence tells. -/
structure PreC (C D : Array Value) : Prop where
  size : D.size = 25
  at_ : ∀ (k : Nat) (v : Value), D[k]? = some v → C[k]? = some v
theorem info_fix : (Tryz.prog.info? 42).map (·.size) = some 25 := by kernel_rfl
theorem mgAns_tuple (r : Option Mg) : ∃ x y z k c n o, mgAns r = .tuple #[.agg #[.int .u8 k, .bool x, .int .i64 y, .bool z, .int .i64 c, .bool n], .bool o] := ⟨_, _, _, _, _, _, _, rfl⟩
/-- A call that tells what the call within it tells. -/
theorem msg_worlds (w : World) (C : Array Value) (E T : TypeId) : ∃ W, (w.alloc (.cells C E)).alloc (.cells #[.int .u8 0, .bool false, .int .i64 0, .bool false, .int .i64 0, .bool false] T) = W ∧ Grew w W ∧ (∀ k v, C[k]? = some v → W.cell? ⟨w.heap.size, k, none⟩ = some v) ∧ Six W (w.heap.size + 1) (.int .u8 0) (.bool false) (.int .i64 0) (.bool false) (.int .i64 0) (.bool false) ∧ Wet W (w.heap.size + 1) :=
  fix_worlds w C _ _ _ _ _ _ E T
-- [ZDAS
set_option maxRecDepth 100000 in
set_option maxHeartbeats 4000000 in
theorem msg_zdaSecond (C D : Array Value) (v ht hd wh : Bool) (h i s d m y : Int) (w : World) (hC : PreC C D) (hD : FixC D v ht hd wh h i s d m y)
    (by_ : -9223372036854775808 ≤ y ∧ y ≤ 9223372036854775807) (bm : -9223372036854775808 ≤ m ∧ m ≤ 9223372036854775807) (bd : -9223372036854775808 ≤ d ∧ d ≤ 9223372036854775807)
    (bh : -9223372036854775808 ≤ h ∧ h ≤ 9223372036854775807) (bi : -9223372036854775808 ≤ i ∧ i ≤ 9223372036854775807) (bs : -9223372036854775808 ≤ s ∧ s ≤ 9223372036854775807) (ht' : Tab w) :
    Calls Tryz.prog 24 #[.agg C] w fun e w' => e = .returned (mgAns (utcM 0 0 y m d h i s)) ∧ Grew w w' := by
  have HM := fun w => Lib.hid (msg_momentOfFix D v ht hd wh h i s d m y w hD)
  have HU := fun w t => Lib.hid (msg_ofUTC y m d h i s w by_ bm bd bh bi bs t)
  obtain ⟨a1, a2, a3, a4, a5, a6, a7, ha⟩ := mgAns_tuple (utcM 0 0 y m d h i s)
  rw [ha] at HU ⊢
  clear ha
  have HT := Lib.hid ht'
  have hI := Lib.hid (info_fix.trans (congrArg some hC.size.symm))
  have hAt := Lib.hid hC.at_
  clear hC hD ht' by_ bm bd bh bi bs
  go_enter Tryz.func24, Tryz.ntmps24
  go_upto_region 1 with fail
  obtain ⟨W, hW, g0, hc, x, f⟩ := msg_worlds w C 44 27
  rw [hW]
  clear hW
  replace hc := Lib.hid (fun (k : Nat) (u : Value) (hk : D[k]? = some u) => hc k u (hAt.out k u hk))
  go_wp2_with (first | (refine wpList_load_mid rfl 42 _ rfl w.heap.size 0 rfl D.toList _ (fun j u hu => by rw [Nat.zero_add]; exact hc.out j u (by simpa using hu)) Tryz.underlying42 rfl (by simpa using hI.out) ?_) | (go_at_call 56; refine (HM _).out.mono ?_; rintro e w1 ⟨rfl, g1⟩) | (go_at_call 57; refine (HU _ (HT.out.grew (g0.trans g1))).out.mono ?_; rintro e w2 ⟨rfl, g2⟩; obtain ⟨x0, c0, c1, c2, c3, c4, c5⟩ := x.grew (g1.trans g2); obtain ⟨f0, f1, f2, f3, f4, f5⟩ := f.grew x.1 (g1.trans g2)))
  refine bodyPost_ret (by simp [results, Tryz.results24, go_sem, c0, c1, c2, c3, c4, c5]; try rfl) rfl ?_
  exact ⟨rfl, six_put _ (g0.trans (g1.trans g2)) (by omega) _ _ _ _ _ _⟩
-- ZDAS]
end Go.Proofs.YtnhigfkhdmkoeaaGreatDoor

namespace Go.Proofs.YtnhigfkhdmkoeaaGreatDoor
open Go.RowKit
set_option linter.unusedVariables false

theorem wrap_i64_in (n : Int) (h : -9223372036854775808 ≤ n ∧ n ≤ 9223372036854775807) : IntKind.i64.wrap n = n := IntWalk.i64_in _ h
theorem bits_and_i64_n (a b : Nat) (ha : a < 9223372036854775808) (hb : b < 9223372036854775808) : bits .and .i64 (a : Int) (b : Int) = ((a &&& b : Nat) : Int) := by
  have h1 : (BitVec.ofInt 64 (a : Int)).toNat = a := by rw [BitVec.ofInt_natCast, BitVec.toNat_ofNat]; exact Nat.mod_eq_of_lt (Nat.lt_trans ha (by decide))
  have h2 : (BitVec.ofInt 64 (b : Int)).toNat = b := by rw [BitVec.ofInt_natCast, BitVec.toNat_ofNat]; exact Nat.mod_eq_of_lt (Nat.lt_trans hb (by decide))
  have hx : a &&& b ≤ a := Nat.and_le_left
  show IntKind.i64.wrap ((BitVec.ofInt 64 (a : Int) &&& BitVec.ofInt 64 (b : Int)).toNat : Int) = _
  rw [BitVec.toNat_and, h1, h2, wrap_i64_in _ (by omega)]
/-- The lowest bits of a number that is not below 0. -/
theorem bits_low (x : Int) (k : Nat) (hx : 0 ≤ x ∧ x ≤ 65535) (hk : k ≤ 16) : bits .and .i64 x ((2 ^ k - 1 : Nat) : Int) = x % ((2 ^ k : Nat) : Int) := by
  obtain ⟨n, rfl⟩ := Int.eq_ofNat_of_zero_le hx.1
  have hp : 2 ^ k ≤ 65536 := Nat.le_trans (Nat.pow_le_pow_right (by decide) hk) (by decide)
  rw [bits_and_i64_n n (2 ^ k - 1) (by omega) (Nat.lt_of_le_of_lt (Nat.sub_le _ _) (Nat.lt_of_le_of_lt hp (by decide))), Nat.and_two_pow_sub_one_eq_mod]
  rfl
theorem low1 (x : Int) (hx : 0 ≤ x ∧ x ≤ 65535) : bits .and .i64 x 1 = x % 2 := bits_low x 1 hx (by decide)
theorem low3 (x : Int) (hx : 0 ≤ x ∧ x ≤ 65535) : bits .and .i64 x 3 = x % 4 := bits_low x 2 hx (by decide)
theorem low7 (x : Int) (hx : 0 ≤ x ∧ x ≤ 65535) : bits .and .i64 x 7 = x % 8 := bits_low x 3 hx (by decide)
theorem low1023 (x : Int) (hx : -32768 ≤ x ∧ x ≤ 65535) : bits .and .i64 x 1023 = x % 1024 := by
  by_cases h0 : 0 ≤ x
  · exact bits_low x 10 ⟨h0, hx.2⟩ (by decide)
  · have h1 : (BitVec.ofInt 64 x).toNat = (x + 18446744073709551616).toNat := by
      rw [BitVec.toNat_ofInt]
      congr 1
      show x % (18446744073709551616 : Int) = _
      omega
    have h2 : (BitVec.ofInt 64 1023).toNat = 1023 := by decide
    obtain ⟨n, hn⟩ := Int.eq_ofNat_of_zero_le (show 0 ≤ x + 18446744073709551616 by omega)
    rw [hn, Int.toNat_natCast] at h1
    have h3 : n &&& 1023 = n % 1024 := Nat.and_two_pow_sub_one_eq_mod n 10
    show IntKind.i64.wrap ((BitVec.ofInt 64 x &&& BitVec.ofInt 64 1023).toNat : Int) = _
    rw [BitVec.toNat_and, h1, h2, h3, wrap_i64_in _ (by omega)]
    omega
/-- The third lowest bit. -/
theorem third_all : (List.range 256).all (fun n => decide (n &&& 4 = 4) == decide (4 ≤ n % 8)) = true := by kernel_rfl
theorem third_nat (n : Nat) (h : n < 256) : (n &&& 4 = 4 ↔ 4 ≤ n % 8) := by
  have := List.all_eq_true.1 third_all n (List.mem_range.2 h)
  rw [beq_iff_eq, decide_eq_decide] at this
  exact this
theorem third_bit (x : Int) (hx : 0 ≤ x ∧ x ≤ 255) : ∃ r, bits .and .i64 x 4 = r ∧ (r = 4 ↔ 4 ≤ x % 8) := by
  obtain ⟨n, rfl⟩ := Int.eq_ofNat_of_zero_le hx.1
  have h := third_nat n (by omega)
  refine ⟨_, bits_and_i64_n n 4 (by omega) (by omega), ?_⟩
  omega
theorem six_far {F : Nat → Prop} {a w : World} {p : Nat} (h : Far F a w) (hp : F p) (x0 x1 x2 x3 x4 x5 : Value) :
    Far F a ((((((w.setCell ⟨p, 0, none⟩ x0).setCell ⟨p, 1, none⟩ x1).setCell ⟨p, 2, none⟩ x2).setCell ⟨p, 3, none⟩ x3).setCell ⟨p, 4, none⟩ x4).setCell ⟨p, 5, none⟩ x5) :=
  (((((h.setCell (p := ⟨p, 0, none⟩) hp _).setCell (p := ⟨p, 1, none⟩) hp _).setCell (p := ⟨p, 2, none⟩) hp _).setCell (p := ⟨p, 3, none⟩) hp _).setCell (p := ⟨p, 4, none⟩) hp _).setCell (p := ⟨p, 5, none⟩) hp _
theorem one_block (p : Nat) : ∃ F : Nat → Prop, F p ∧ ∀ k, k ≠ p → ¬ F k := ⟨fun k => k = p, rfl, fun _ h => h⟩
/-- Values in a content. -/
structure ValC (w : World) (C : Array Value) (zs : List Int) : Prop where
  v : ∃ v, C[25]? = some v ∧ RowZ .i64 w v zs
theorem ValC.out {w : World} {C : Array Value} {zs : List Int} (h : ValC w C zs) (hn : 0 < zs.length) : ∃ b o c, C[25]? = some (.slice (some ⟨b, o, none⟩) zs.length c) ∧ zs.length ≤ c ∧ b < w.heap.size ∧ ∀ i, i < zs.length → w.cell? ⟨b, o + i, none⟩ = some (.int .i64 (zi zs i)) := by
  obtain ⟨v, h1, A, c, rfl, hc, hr⟩ := h
  obtain ⟨b, o, rfl, hb, hcell⟩ := hr hn
  exact ⟨b, o, c, h1, hc, hb, hcell⟩
theorem ValC.grew {w w' : World} {C : Array Value} {zs : List Int} (h : ValC w C zs) (g : Grew w w') : ValC w' C zs := by
  obtain ⟨v, h1, h2⟩ := h
  exact ⟨v, h1, h2.grew g⟩
theorem rowZ_cut {w : World} {b o n c : Nat} {zs : List Int} (hn : n = zs.length) (hc : n ≤ c) (hb : b < w.heap.size) (h : ∀ i, i < zs.length → w.cell? ⟨b, o + i, none⟩ = some (.int .i64 (zi zs i))) (j : Nat) (hj : j ≤ n) :
    RowZ .i64 w (.slice (some ⟨b, o + j, none⟩) (n - j) (c - j)) (zs.drop j) := by
  subst hn
  refine ⟨some ⟨b, o + j, none⟩, c - j, by rw [List.length_drop], by rw [List.length_drop]; omega, fun _ => ⟨b, o + j, rfl, hb, fun i hi => ?_⟩⟩
  rw [List.length_drop] at hi
  have := h (j + i) (by omega)
  rw [Nat.add_assoc, this]
  unfold zi
  rw [List.getD_eq_getElem?_getD, List.getD_eq_getElem?_getD, List.getElem?_drop]
theorem zi_drop (zs : List Int) (j i : Nat) : zi (zs.drop j) i = zi zs (j + i) := by
  unfold zi
  rw [List.getD_eq_getElem?_getD, List.getD_eq_getElem?_getD, List.getElem?_drop]
-- [pvtH
set_option maxRecDepth 100000 in
set_option maxHeartbeats 4000000 in
theorem msg_pvtHolds (C : Array Value) (zs : List Int) (w : World) (hC : ValC w C zs) (hn : 12 ≤ zs.length) (b7 : 0 ≤ zi zs 7 ∧ zi zs 7 ≤ 255) (b11 : 0 ≤ zi zs 11 ∧ zi zs 11 ≤ 255) :
    Calls Tryz.prog 25 #[.agg C] w fun e w' => e = .returned (.bool (decide (zi zs 7 % 8 = 7 ∧ (3 ≤ zi zs 10 ∧ zi zs 10 ≤ 5) ∧ zi zs 11 % 2 = 1 ∧ zi zs 9 = 0))) ∧ Grew w w' := by
  obtain ⟨b, o, c, hv, hc, hb, hcell⟩ := hC.out (by omega)
  have k7 := hcell 7 (by omega)
  have k9 := hcell 9 (by omega)
  have k10 := hcell 10 (by omega)
  have k11 := hcell 11 (by omega)
  clear hcell hC
  generalize zi zs 7 = z7 at *
  generalize zi zs 9 = z9 at *
  generalize zi zs 10 = z10 at *
  generalize zi zs 11 = z11 at *
  generalize zs.length = n at *
  clear zs
  have l7 := low7 z7 (by omega)
  have l11 := low1 z11 (by omega)
  have e7 : (7 : Int) < n := by omega
  have e9 : (9 : Int) < n := by omega
  have e10 : (10 : Int) < n := by omega
  have e11 : (11 : Int) < n := by omega
  clear hn
  by_cases p0 : z7 % 8 = 7
  · have q7 : (z7 % 8 == 7) = true := by rw [p0]; rfl
    by_cases p1 : 3 ≤ z10
    · by_cases p2 : z10 ≤ 5
      · by_cases p3 : z11 % 2 = 1
        · have q11 : (z11 % 2 == 1) = true := by rw [p3]; rfl
          by_cases p4 : z9 = 0
          · have q9 : (z9 == 0) = true := by rw [p4]; rfl
            rw [decide_eq_true (by omega)]
            go_enter Tryz.func25, Tryz.ntmps25
            go_upto_region 1 with fail
            obtain ⟨W, hW, g0, hc2⟩ := box_world w C 44
            rw [hW]
            clear hW
            have hv2 := hc2 _ _ hv
            clear hc2 hv
            replace k7 := (g0.cell hb).trans k7
            replace k9 := (g0.cell hb).trans k9
            replace k10 := (g0.cell hb).trans k10
            replace k11 := (g0.cell hb).trans k11
            go_wp2_with fail
            go_ret
            exact ⟨rfl, g0⟩
          · have q9 : (z9 == 0) = false := by simpa using p4
            rw [decide_eq_false (by omega)]
            go_enter Tryz.func25, Tryz.ntmps25
            go_upto_region 1 with fail
            obtain ⟨W, hW, g0, hc2⟩ := box_world w C 44
            rw [hW]
            clear hW
            have hv2 := hc2 _ _ hv
            clear hc2 hv
            replace k7 := (g0.cell hb).trans k7
            replace k9 := (g0.cell hb).trans k9
            replace k10 := (g0.cell hb).trans k10
            replace k11 := (g0.cell hb).trans k11
            go_wp2_with fail
            go_ret
            exact ⟨rfl, g0⟩
        · have q11 : (z11 % 2 == 1) = false := by simpa using p3
          rw [decide_eq_false (by omega)]
          go_enter Tryz.func25, Tryz.ntmps25
          go_upto_region 1 with fail
          obtain ⟨W, hW, g0, hc2⟩ := box_world w C 44
          rw [hW]
          clear hW
          have hv2 := hc2 _ _ hv
          clear hc2 hv
          replace k7 := (g0.cell hb).trans k7
          replace k9 := (g0.cell hb).trans k9
          replace k10 := (g0.cell hb).trans k10
          replace k11 := (g0.cell hb).trans k11
          go_wp2_with fail
          go_ret
          exact ⟨rfl, g0⟩
      · rw [decide_eq_false (by omega)]
        go_enter Tryz.func25, Tryz.ntmps25
        go_upto_region 1 with fail
        obtain ⟨W, hW, g0, hc2⟩ := box_world w C 44
        rw [hW]
        clear hW
        have hv2 := hc2 _ _ hv
        clear hc2 hv
        replace k7 := (g0.cell hb).trans k7
        replace k9 := (g0.cell hb).trans k9
        replace k10 := (g0.cell hb).trans k10
        replace k11 := (g0.cell hb).trans k11
        go_wp2_with fail
        go_ret
        exact ⟨rfl, g0⟩
    · rw [decide_eq_false (by omega)]
      go_enter Tryz.func25, Tryz.ntmps25
      go_upto_region 1 with fail
      obtain ⟨W, hW, g0, hc2⟩ := box_world w C 44
      rw [hW]
      clear hW
      have hv2 := hc2 _ _ hv
      clear hc2 hv
      replace k7 := (g0.cell hb).trans k7
      replace k9 := (g0.cell hb).trans k9
      replace k10 := (g0.cell hb).trans k10
      replace k11 := (g0.cell hb).trans k11
      go_wp2_with fail
      go_ret
      exact ⟨rfl, g0⟩
  · have q7 : (z7 % 8 == 7) = false := by simpa using p0
    rw [decide_eq_false (by omega)]
    go_enter Tryz.func25, Tryz.ntmps25
    go_upto_region 1 with fail
    obtain ⟨W, hW, g0, hc2⟩ := box_world w C 44
    rw [hW]
    clear hW
    have hv2 := hc2 _ _ hv
    clear hc2 hv
    replace k7 := (g0.cell hb).trans k7
    replace k9 := (g0.cell hb).trans k9
    replace k10 := (g0.cell hb).trans k10
    replace k11 := (g0.cell hb).trans k11
    go_wp2_with fail
    go_ret
    exact ⟨rfl, g0⟩
-- pvtH]
-- [timeGPSH
set_option maxRecDepth 100000 in
set_option maxHeartbeats 4000000 in
theorem msg_timeGPSHolds (C : Array Value) (zs : List Int) (w : World) (hC : ValC w C zs) (hn : 5 ≤ zs.length) (b4 : 0 ≤ zi zs 4 ∧ zi zs 4 ≤ 255) :
    Calls Tryz.prog 27 #[.agg C] w fun e w' => e = .returned (.bool (decide (zi zs 4 % 4 = 3 ∧ zi zs 1 = 0))) ∧ Grew w w' := by
  obtain ⟨b, o, c, hv, hc, hb, hcell⟩ := hC.out (by omega)
  have k1 := hcell 1 (by omega)
  have k4 := hcell 4 (by omega)
  clear hcell hC
  generalize zi zs 1 = z1 at *
  generalize zi zs 4 = z4 at *
  generalize zs.length = n at *
  clear zs
  have l4 := low3 z4 (by omega)
  have e1 : (1 : Int) < n := by omega
  have e4 : (4 : Int) < n := by omega
  clear hn
  by_cases p0 : z4 % 4 = 3
  · have q4 : (z4 % 4 == 3) = true := by rw [p0]; rfl
    by_cases p1 : z1 = 0
    · have q1 : (z1 == 0) = true := by rw [p1]; rfl
      rw [decide_eq_true (by refine ⟨?_, ?_⟩ <;> omega)]
      go_enter Tryz.func27, Tryz.ntmps27
      go_upto_region 1 with fail
      obtain ⟨W, hW, g0, hc2⟩ := box_world w C 44
      rw [hW]
      clear hW
      have hv2 := hc2 _ _ hv
      clear hc2 hv
      replace k1 := (g0.cell hb).trans k1
      replace k4 := (g0.cell hb).trans k4
      go_wp2_with fail
      go_ret
      exact ⟨rfl, g0⟩
    · have q1 : (z1 == 0) = false := by simpa using p1
      rw [decide_eq_false (by omega)]
      go_enter Tryz.func27, Tryz.ntmps27
      go_upto_region 1 with fail
      obtain ⟨W, hW, g0, hc2⟩ := box_world w C 44
      rw [hW]
      clear hW
      have hv2 := hc2 _ _ hv
      clear hc2 hv
      replace k1 := (g0.cell hb).trans k1
      replace k4 := (g0.cell hb).trans k4
      go_wp2_with fail
      go_ret
      exact ⟨rfl, g0⟩
  · have q4 : (z4 % 4 == 3) = false := by simpa using p0
    rw [decide_eq_false (by omega)]
    go_enter Tryz.func27, Tryz.ntmps27
    go_upto_region 1 with fail
    obtain ⟨W, hW, g0, hc2⟩ := box_world w C 44
    rw [hW]
    clear hW
    have hv2 := hc2 _ _ hv
    clear hc2 hv
    replace k1 := (g0.cell hb).trans k1
    replace k4 := (g0.cell hb).trans k4
    go_wp2_with fail
    go_ret
    exact ⟨rfl, g0⟩
-- timeGPSH]
-- [timeUTCH
set_option maxRecDepth 100000 in
set_option maxHeartbeats 4000000 in
theorem msg_timeUTCHolds (C : Array Value) (zs : List Int) (w : World) (hC : ValC w C zs) (hn : 10 ≤ zs.length) (b9 : 0 ≤ zi zs 9 ∧ zi zs 9 ≤ 255) :
    Calls Tryz.prog 29 #[.agg C] w fun e w' => e = .returned (.bool (decide (4 ≤ zi zs 9 % 8 ∧ zi zs 2 = 0))) ∧ Grew w w' := by
  obtain ⟨b, o, c, hv, hc, hb, hcell⟩ := hC.out (by omega)
  have k2 := hcell 2 (by omega)
  have k9 := hcell 9 (by omega)
  clear hcell hC
  generalize zi zs 2 = z2 at *
  generalize zi zs 9 = z9 at *
  generalize zs.length = n at *
  clear zs
  obtain ⟨r9, l9, i9⟩ := third_bit z9 (by omega)
  have e2 : (2 : Int) < n := by omega
  have e9 : (9 : Int) < n := by omega
  clear hn
  by_cases p0 : r9 = 4
  · have q9 : (r9 == 4) = true := by rw [p0]; rfl
    by_cases p1 : z2 = 0
    · have q2 : (z2 == 0) = true := by rw [p1]; rfl
      rw [decide_eq_true (by refine ⟨?_, ?_⟩ <;> omega)]
      go_enter Tryz.func29, Tryz.ntmps29
      go_upto_region 1 with fail
      obtain ⟨W, hW, g0, hc2⟩ := box_world w C 44
      rw [hW]
      clear hW
      have hv2 := hc2 _ _ hv
      clear hc2 hv
      replace k2 := (g0.cell hb).trans k2
      replace k9 := (g0.cell hb).trans k9
      go_wp2_with fail
      go_ret
      exact ⟨rfl, g0⟩
    · have q2 : (z2 == 0) = false := by simpa using p1
      rw [decide_eq_false (by omega)]
      go_enter Tryz.func29, Tryz.ntmps29
      go_upto_region 1 with fail
      obtain ⟨W, hW, g0, hc2⟩ := box_world w C 44
      rw [hW]
      clear hW
      have hv2 := hc2 _ _ hv
      clear hc2 hv
      replace k2 := (g0.cell hb).trans k2
      replace k9 := (g0.cell hb).trans k9
      go_wp2_with fail
      go_ret
      exact ⟨rfl, g0⟩
  · have q9 : (r9 == 4) = false := by simpa using p0
    rw [decide_eq_false (by omega)]
    go_enter Tryz.func29, Tryz.ntmps29
    go_upto_region 1 with fail
    obtain ⟨W, hW, g0, hc2⟩ := box_world w C 44
    rw [hW]
    clear hW
    have hv2 := hc2 _ _ hv
    clear hc2 hv
    replace k2 := (g0.cell hb).trans k2
    replace k9 := (g0.cell hb).trans k9
    go_wp2_with fail
    go_ret
    exact ⟨rfl, g0⟩
-- timeUTCH]
-- [timTPH
set_option maxRecDepth 100000 in
set_option maxHeartbeats 4000000 in
theorem msg_timTPHolds (C : Array Value) (zs : List Int) (w : World) (hC : ValC w C zs) (hn : 5 ≤ zs.length) (b4 : 0 ≤ zi zs 4 ∧ zi zs 4 ≤ 255) :
    Calls Tryz.prog 31 #[.agg C] w fun e w' => e = .returned (.bool (decide (zi zs 4 % 2 = 0 ∧ zi zs 1 = 0))) ∧ Grew w w' := by
  obtain ⟨b, o, c, hv, hc, hb, hcell⟩ := hC.out (by omega)
  have k1 := hcell 1 (by omega)
  have k4 := hcell 4 (by omega)
  clear hcell hC
  generalize zi zs 1 = z1 at *
  generalize zi zs 4 = z4 at *
  generalize zs.length = n at *
  clear zs
  have l4 := low1 z4 (by omega)
  have e1 : (1 : Int) < n := by omega
  have e4 : (4 : Int) < n := by omega
  clear hn
  by_cases p0 : z4 % 2 = 0
  · have q4 : (z4 % 2 == 0) = true := by rw [p0]; rfl
    by_cases p1 : z1 = 0
    · have q1 : (z1 == 0) = true := by rw [p1]; rfl
      rw [decide_eq_true (by refine ⟨?_, ?_⟩ <;> omega)]
      go_enter Tryz.func31, Tryz.ntmps31
      go_upto_region 1 with fail
      obtain ⟨W, hW, g0, hc2⟩ := box_world w C 44
      rw [hW]
      clear hW
      have hv2 := hc2 _ _ hv
      clear hc2 hv
      replace k1 := (g0.cell hb).trans k1
      replace k4 := (g0.cell hb).trans k4
      go_wp2_with fail
      go_ret
      exact ⟨rfl, g0⟩
    · have q1 : (z1 == 0) = false := by simpa using p1
      rw [decide_eq_false (by omega)]
      go_enter Tryz.func31, Tryz.ntmps31
      go_upto_region 1 with fail
      obtain ⟨W, hW, g0, hc2⟩ := box_world w C 44
      rw [hW]
      clear hW
      have hv2 := hc2 _ _ hv
      clear hc2 hv
      replace k1 := (g0.cell hb).trans k1
      replace k4 := (g0.cell hb).trans k4
      go_wp2_with fail
      go_ret
      exact ⟨rfl, g0⟩
  · have q4 : (z4 % 2 == 0) = false := by simpa using p0
    rw [decide_eq_false (by omega)]
    go_enter Tryz.func31, Tryz.ntmps31
    go_upto_region 1 with fail
    obtain ⟨W, hW, g0, hc2⟩ := box_world w C 44
    rw [hW]
    clear hW
    have hv2 := hc2 _ _ hv
    clear hc2 hv
    replace k1 := (g0.cell hb).trans k1
    replace k4 := (g0.cell hb).trans k4
    go_wp2_with fail
    go_ret
    exact ⟨rfl, g0⟩
-- timTPH]
-- [sirf2H
set_option maxRecDepth 100000 in
set_option maxHeartbeats 4000000 in
theorem msg_sirf2Holds (C : Array Value) (zs : List Int) (w : World) (hC : ValC w C zs) (hn : 11 ≤ zs.length) (b6 : 0 ≤ zi zs 6 ∧ zi zs 6 ≤ 255) :
    Calls Tryz.prog 33 #[.agg C] w fun e w' => e = .returned (.bool (decide (3 ≤ zi zs 6 % 8 ∧ zi zs 6 % 8 ≤ 6))) ∧ Grew w w' := by
  obtain ⟨b, o, c, hv, hc, hb, hcell⟩ := hC.out (by omega)
  have k6 := hcell 6 (by omega)
  clear hcell hC
  generalize zi zs 6 = z6 at *
  generalize zs.length = n at *
  clear zs
  have l6 := low7 z6 (by omega)
  have e6 : (6 : Int) < n := by omega
  clear hn
  by_cases p0 : 3 ≤ z6 % 8
  · by_cases p1 : z6 % 8 ≤ 6
    · rw [decide_eq_true (by refine ⟨?_, ?_⟩ <;> omega)]
      go_enter Tryz.func33, Tryz.ntmps33
      go_upto_region 1 with fail
      obtain ⟨W, hW, g0, hc2⟩ := box_world w C 44
      rw [hW]
      clear hW
      have hv2 := hc2 _ _ hv
      clear hc2 hv
      replace k6 := (g0.cell hb).trans k6
      go_wp2_with fail
      go_ret
      exact ⟨rfl, g0⟩
    · rw [decide_eq_false (by omega)]
      go_enter Tryz.func33, Tryz.ntmps33
      go_upto_region 1 with fail
      obtain ⟨W, hW, g0, hc2⟩ := box_world w C 44
      rw [hW]
      clear hW
      have hv2 := hc2 _ _ hv
      clear hc2 hv
      replace k6 := (g0.cell hb).trans k6
      go_wp2_with fail
      go_ret
      exact ⟨rfl, g0⟩
  · rw [decide_eq_false (by omega)]
    go_enter Tryz.func33, Tryz.ntmps33
    go_upto_region 1 with fail
    obtain ⟨W, hW, g0, hc2⟩ := box_world w C 44
    rw [hW]
    clear hW
    have hv2 := hc2 _ _ hv
    clear hc2 hv
    replace k6 := (g0.cell hb).trans k6
    go_wp2_with fail
    go_ret
    exact ⟨rfl, g0⟩
-- sirf2H]
-- [sirf4H
set_option maxRecDepth 100000 in
set_option maxHeartbeats 4000000 in
theorem msg_sirf4Holds (C : Array Value) (zs : List Int) (w : World) (hC : ValC w C zs) (hn : 3 ≤ zs.length) :
    Calls Tryz.prog 35 #[.agg C] w fun e w' => e = .returned (.bool (decide (4 ≤ zi zs 2))) ∧ Grew w w' := by
  obtain ⟨b, o, c, hv, hc, hb, hcell⟩ := hC.out (by omega)
  have k2 := hcell 2 (by omega)
  clear hcell hC
  generalize zi zs 2 = z2 at *
  generalize zs.length = n at *
  clear zs
  have e2 : (2 : Int) < n := by omega
  clear hn
  by_cases p0 : 4 ≤ z2
  · rw [decide_eq_true (by omega)]
    go_enter Tryz.func35, Tryz.ntmps35
    go_upto_region 1 with fail
    obtain ⟨W, hW, g0, hc2⟩ := box_world w C 44
    rw [hW]
    clear hW
    have hv2 := hc2 _ _ hv
    clear hc2 hv
    replace k2 := (g0.cell hb).trans k2
    go_wp2_with fail
    go_ret
    exact ⟨rfl, g0⟩
  · rw [decide_eq_false (by omega)]
    go_enter Tryz.func35, Tryz.ntmps35
    go_upto_region 1 with fail
    obtain ⟨W, hW, g0, hc2⟩ := box_world w C 44
    rw [hW]
    clear hW
    have hv2 := hc2 _ _ hv
    clear hc2 hv
    replace k2 := (g0.cell hb).trans k2
    go_wp2_with fail
    go_ret
    exact ⟨rfl, g0⟩
-- sirf4H]
-- [sirf7H
set_option maxRecDepth 100000 in
set_option maxHeartbeats 4000000 in
theorem msg_sirf7Holds (C : Array Value) (zs : List Int) (w : World) (hC : ValC w C zs) (hn : 3 ≤ zs.length) :
    Calls Tryz.prog 37 #[.agg C] w fun e w' => e = .returned (.bool (decide (4 ≤ zi zs 2))) ∧ Grew w w' := by
  obtain ⟨b, o, c, hv, hc, hb, hcell⟩ := hC.out (by omega)
  have k2 := hcell 2 (by omega)
  clear hcell hC
  generalize zi zs 2 = z2 at *
  generalize zs.length = n at *
  clear zs
  have e2 : (2 : Int) < n := by omega
  clear hn
  by_cases p0 : 4 ≤ z2
  · rw [decide_eq_true (by omega)]
    go_enter Tryz.func37, Tryz.ntmps37
    go_upto_region 1 with fail
    obtain ⟨W, hW, g0, hc2⟩ := box_world w C 44
    rw [hW]
    clear hW
    have hv2 := hc2 _ _ hv
    clear hc2 hv
    replace k2 := (g0.cell hb).trans k2
    go_wp2_with fail
    go_ret
    exact ⟨rfl, g0⟩
  · rw [decide_eq_false (by omega)]
    go_enter Tryz.func37, Tryz.ntmps37
    go_upto_region 1 with fail
    obtain ⟨W, hW, g0, hc2⟩ := box_world w C 44
    rw [hW]
    clear hW
    have hv2 := hc2 _ _ hv
    clear hc2 hv
    replace k2 := (g0.cell hb).trans k2
    go_wp2_with fail
    go_ret
    exact ⟨rfl, g0⟩
-- sirf7H]
-- [sirf41H
set_option maxRecDepth 100000 in
set_option maxHeartbeats 4000000 in
theorem msg_sirf41Holds (C : Array Value) (zs : List Int) (w : World) (hC : ValC w C zs) (hn : 10 ≤ zs.length) (b9 : 0 ≤ zi zs 9 ∧ zi zs 9 ≤ 65535) :
    Calls Tryz.prog 39 #[.agg C] w fun e w' => e = .returned (.bool (decide (zi zs 0 = 0 ∧ zi zs 9 % 1000 = 0))) ∧ Grew w w' := by
  obtain ⟨b, o, c, hv, hc, hb, hcell⟩ := hC.out (by omega)
  have k0 := hcell 0 (by omega)
  have k9 := hcell 9 (by omega)
  rw [Nat.add_zero] at k0
  clear hcell hC
  generalize zi zs 0 = z0 at *
  generalize zi zs 9 = z9 at *
  generalize zs.length = n at *
  clear zs
  have e0 : 0 < n := by omega
  have e9 : (9 : Int) < n := by omega
  clear hn
  by_cases p0 : z0 = 0
  · have q0 : (z0 == 0) = true := by rw [p0]; rfl
    by_cases p1 : z9 % 1000 = 0
    · have q9 : (z9 % 1000 == 0) = true := by rw [p1]; rfl
      rw [decide_eq_true (by refine ⟨?_, ?_⟩ <;> omega)]
      go_enter Tryz.func39, Tryz.ntmps39
      go_upto_region 1 with fail
      obtain ⟨W, hW, g0, hc2⟩ := box_world w C 44
      rw [hW]
      clear hW
      have hv2 := hc2 _ _ hv
      clear hc2 hv
      replace k0 := (g0.cell hb).trans k0
      replace k9 := (g0.cell hb).trans k9
      go_wp2_with fail
      go_ret
      exact ⟨rfl, g0⟩
    · have q9 : (z9 % 1000 == 0) = false := by simpa using p1
      rw [decide_eq_false (by omega)]
      go_enter Tryz.func39, Tryz.ntmps39
      go_upto_region 1 with fail
      obtain ⟨W, hW, g0, hc2⟩ := box_world w C 44
      rw [hW]
      clear hW
      have hv2 := hc2 _ _ hv
      clear hc2 hv
      replace k0 := (g0.cell hb).trans k0
      replace k9 := (g0.cell hb).trans k9
      go_wp2_with fail
      go_ret
      exact ⟨rfl, g0⟩
  · have q0 : (z0 == 0) = false := by simpa using p0
    rw [decide_eq_false (by omega)]
    go_enter Tryz.func39, Tryz.ntmps39
    go_upto_region 1 with fail
    obtain ⟨W, hW, g0, hc2⟩ := box_world w C 44
    rw [hW]
    clear hW
    have hv2 := hc2 _ _ hv
    clear hc2 hv
    replace k0 := (g0.cell hb).trans k0
    replace k9 := (g0.cell hb).trans k9
    go_wp2_with fail
    go_ret
    exact ⟨rfl, g0⟩
-- sirf41H]
-- [sirf52H
set_option maxRecDepth 100000 in
set_option maxHeartbeats 4000000 in
theorem msg_sirf52Holds (C : Array Value) (zs : List Int) (w : World) (hC : ValC w C zs) (hn : 9 ≤ zs.length) (b8 : 0 ≤ zi zs 8 ∧ zi zs 8 ≤ 255) :
    Calls Tryz.prog 41 #[.agg C] w fun e w' => e = .returned (.bool (decide (zi zs 8 % 4 = 3))) ∧ Grew w w' := by
  obtain ⟨b, o, c, hv, hc, hb, hcell⟩ := hC.out (by omega)
  have k8 := hcell 8 (by omega)
  clear hcell hC
  generalize zi zs 8 = z8 at *
  generalize zs.length = n at *
  clear zs
  have l8 := low3 z8 (by omega)
  have e8 : (8 : Int) < n := by omega
  clear hn
  by_cases p0 : z8 % 4 = 3
  · have q8 : (z8 % 4 == 3) = true := by rw [p0]; rfl
    rw [decide_eq_true (by omega)]
    go_enter Tryz.func41, Tryz.ntmps41
    go_upto_region 1 with fail
    obtain ⟨W, hW, g0, hc2⟩ := box_world w C 44
    rw [hW]
    clear hW
    have hv2 := hc2 _ _ hv
    clear hc2 hv
    replace k8 := (g0.cell hb).trans k8
    go_wp2_with fail
    go_ret
    exact ⟨rfl, g0⟩
  · have q8 : (z8 % 4 == 3) = false := by simpa using p0
    rw [decide_eq_false (by omega)]
    go_enter Tryz.func41, Tryz.ntmps41
    go_upto_region 1 with fail
    obtain ⟨W, hW, g0, hc2⟩ := box_world w C 44
    rw [hW]
    clear hW
    have hv2 := hc2 _ _ hv
    clear hc2 hv
    replace k8 := (g0.cell hb).trans k8
    go_wp2_with fail
    go_ret
    exact ⟨rfl, g0⟩
-- sirf52H]
-- [timeGPSS
set_option maxRecDepth 100000 in
set_option maxHeartbeats 4000000 in
theorem msg_timeGPSSecond (C : Array Value) (zs : List Int) (w : World) (hC : ValC w C zs) (hn : 5 ≤ zs.length) (bw : 0 ≤ zi zs 2 ∧ zi zs 2 ≤ 65535) (bm : -4294967296 ≤ zi zs 0 ∧ zi zs 0 ≤ 4294967296) :
    Calls Tryz.prog 28 #[.agg C] w fun e w' => e = .returned (mgAns (gpsM 0 0 false (zi zs 2) (zi zs 0))) ∧ Grew w w' := by
  obtain ⟨b, o, c, hv, hc, hb, hcell⟩ := hC.out (by omega)
  have k0 := hcell 0 (by omega)
  have k2 := hcell 2 (by omega)
  rw [Nat.add_zero] at k0
  clear hcell hC
  generalize zi zs 0 = z0 at *
  generalize zi zs 2 = z2 at *
  generalize zs.length = n at *
  clear zs
  have HG := fun w => Lib.hid (msg_ofGPS (z2) (z0) w (by omega) (by omega))
  obtain ⟨a1, a2, a3, a4, a5, a6, a7, ha⟩ := mgAns_tuple (gpsM 0 0 false (z2) (z0))
  rw [ha] at HG ⊢
  clear ha
  have e0 : 0 < n := by omega
  have e2 : (2 : Int) < n := by omega
  clear hn
  go_enter Tryz.func28, Tryz.ntmps28
  go_upto_region 1 with fail
  obtain ⟨W, hW, g0, hc2, x, f⟩ := msg_worlds w C 44 27
  rw [hW]
  clear hW
  have hv2 := hc2 _ _ hv
  clear hc2 hv
  replace k0 := (g0.cell hb).trans k0
  replace k2 := (g0.cell hb).trans k2
  have hwh : w.heap.size < W.heap.size := by have := x.1; omega
  have hb0 := hb
  replace hb := Nat.lt_of_lt_of_le hb g0.size
  obtain ⟨F, hF1, hF2⟩ := one_block (w.heap.size + 1)
  have KS : ∀ w', Far F W w' → Hid (w'.cell? ⟨w.heap.size, 25, none⟩ = some (.slice (some ⟨b, o, none⟩) n c) ∧ w'.cell? ⟨b, o, none⟩ = some (.int .i64 z0) ∧ w'.cell? ⟨b, o + 2, none⟩ = some (.int .i64 z2)) := fun w' g => Lib.hid ⟨(g.cell hwh (hF2 _ (by simp))).trans hv2, (g.cell hb (hF2 _ (by simp; omega))).trans k0, (g.cell hb (hF2 _ (by simp; omega))).trans k2⟩
  have D := (Grew.refl W).drew
  go_region_held3 (fun w' => w'.cell? ⟨w.heap.size, 25, none⟩ = some (.slice (some ⟨b, o, none⟩) n c) ∧ w'.cell? ⟨b, o, none⟩ = some (.int .i64 z0) ∧ w'.cell? ⟨b, o + 2, none⟩ = some (.int .i64 z2)) (first | (with_reducible exact (KS _ (Far.of_grew D)).out) | (with_reducible exact (KS _ (Far.of_grew (D.trans g1))).out) | (with_reducible exact (KS _ (six_far (Far.of_grew (D.trans g1)) hF1 _ _ _ _ _ _)).out)) (first | (go_at_call 59; refine (HG _).out.mono ?_; rintro e w1 ⟨rfl, g1⟩; obtain ⟨x0, c0, c1, c2, c3, c4, c5⟩ := x.grew (D.trans g1); obtain ⟨f0, f1, f2, f3, f4, f5⟩ := f.grew x.1 (D.trans g1)))
  all_goals go_wp2_with fail
  all_goals (refine bodyPost_ret (by simp [results, Tryz.results28, go_sem, c0, c1, c2, c3, c4, c5]; try rfl) rfl ?_)
  all_goals exact ⟨rfl, six_put _ (g0.trans (D.trans g1)) (by omega) _ _ _ _ _ _⟩
-- timeGPSS]
-- [timTPS
set_option maxRecDepth 100000 in
set_option maxHeartbeats 4000000 in
theorem msg_timTPSecond (C : Array Value) (zs : List Int) (w : World) (hC : ValC w C zs) (hn : 5 ≤ zs.length) (bw : 0 ≤ zi zs 3 ∧ zi zs 3 ≤ 65535) (bm : -4294967296 ≤ zi zs 0 ∧ zi zs 0 ≤ 4294967296) :
    Calls Tryz.prog 32 #[.agg C] w fun e w' => e = .returned (mgAns (gpsM 0 0 false (zi zs 3) (zi zs 0))) ∧ Grew w w' := by
  obtain ⟨b, o, c, hv, hc, hb, hcell⟩ := hC.out (by omega)
  have k0 := hcell 0 (by omega)
  have k3 := hcell 3 (by omega)
  rw [Nat.add_zero] at k0
  clear hcell hC
  generalize zi zs 0 = z0 at *
  generalize zi zs 3 = z3 at *
  generalize zs.length = n at *
  clear zs
  have HG := fun w => Lib.hid (msg_ofGPS (z3) (z0) w (by omega) (by omega))
  obtain ⟨a1, a2, a3, a4, a5, a6, a7, ha⟩ := mgAns_tuple (gpsM 0 0 false (z3) (z0))
  rw [ha] at HG ⊢
  clear ha
  have e0 : 0 < n := by omega
  have e3 : (3 : Int) < n := by omega
  clear hn
  go_enter Tryz.func32, Tryz.ntmps32
  go_upto_region 1 with fail
  obtain ⟨W, hW, g0, hc2, x, f⟩ := msg_worlds w C 44 27
  rw [hW]
  clear hW
  have hv2 := hc2 _ _ hv
  clear hc2 hv
  replace k0 := (g0.cell hb).trans k0
  replace k3 := (g0.cell hb).trans k3
  have hwh : w.heap.size < W.heap.size := by have := x.1; omega
  have hb0 := hb
  replace hb := Nat.lt_of_lt_of_le hb g0.size
  obtain ⟨F, hF1, hF2⟩ := one_block (w.heap.size + 1)
  have KS : ∀ w', Far F W w' → Hid (w'.cell? ⟨w.heap.size, 25, none⟩ = some (.slice (some ⟨b, o, none⟩) n c) ∧ w'.cell? ⟨b, o, none⟩ = some (.int .i64 z0) ∧ w'.cell? ⟨b, o + 3, none⟩ = some (.int .i64 z3)) := fun w' g => Lib.hid ⟨(g.cell hwh (hF2 _ (by simp))).trans hv2, (g.cell hb (hF2 _ (by simp; omega))).trans k0, (g.cell hb (hF2 _ (by simp; omega))).trans k3⟩
  have D := (Grew.refl W).drew
  go_region_held3 (fun w' => w'.cell? ⟨w.heap.size, 25, none⟩ = some (.slice (some ⟨b, o, none⟩) n c) ∧ w'.cell? ⟨b, o, none⟩ = some (.int .i64 z0) ∧ w'.cell? ⟨b, o + 3, none⟩ = some (.int .i64 z3)) (first | (with_reducible exact (KS _ (Far.of_grew D)).out) | (with_reducible exact (KS _ (Far.of_grew (D.trans g1))).out) | (with_reducible exact (KS _ (six_far (Far.of_grew (D.trans g1)) hF1 _ _ _ _ _ _)).out)) (first | (go_at_call 59; refine (HG _).out.mono ?_; rintro e w1 ⟨rfl, g1⟩; obtain ⟨x0, c0, c1, c2, c3, c4, c5⟩ := x.grew (D.trans g1); obtain ⟨f0, f1, f2, f3, f4, f5⟩ := f.grew x.1 (D.trans g1)))
  all_goals go_wp2_with fail
  all_goals (refine bodyPost_ret (by simp [results, Tryz.results32, go_sem, c0, c1, c2, c3, c4, c5]; try rfl) rfl ?_)
  all_goals exact ⟨rfl, six_put _ (g0.trans (D.trans g1)) (by omega) _ _ _ _ _ _⟩
-- timTPS]
-- [sirf2S
set_option maxRecDepth 100000 in
set_option maxHeartbeats 4000000 in
theorem msg_sirf2Second (C : Array Value) (zs : List Int) (w : World) (hC : ValC w C zs) (hn : 11 ≤ zs.length) (bw : -32768 ≤ zi zs 9 ∧ zi zs 9 ≤ 65535) (bm : -4294967296 ≤ zi zs 10 ∧ zi zs 10 ≤ 4294967296) :
    Calls Tryz.prog 34 #[.agg C] w fun e w' => e = .returned (mgAns (gpsM 0 0 false (zi zs 9 % 1024) (10 * zi zs 10))) ∧ Grew w w' := by
  obtain ⟨b, o, c, hv, hc, hb, hcell⟩ := hC.out (by omega)
  have k9 := hcell 9 (by omega)
  have k10 := hcell 10 (by omega)
  clear hcell hC
  generalize zi zs 9 = z9 at *
  generalize zi zs 10 = z10 at *
  generalize zs.length = n at *
  clear zs
  obtain ⟨M, hM, hM2⟩ : ∃ M, IntKind.i64.wrap (z10 * 10) = M ∧ 10 * z10 = M := ⟨_, rfl, by rw [wrap_i64_in _ (by omega)]; omega⟩
  have bM : -42949672960 ≤ M ∧ M ≤ 42949672960 := by omega
  rw [hM2]
  clear hM2
  have lw := low1023 z9 bw
  have bw2 : 0 ≤ z9 % 1024 ∧ z9 % 1024 ≤ 65535 := by omega
  generalize z9 % 1024 = r at *
  have HG := fun w => Lib.hid (msg_ofGPS (r) (M) w (by omega) (by omega))
  obtain ⟨a1, a2, a3, a4, a5, a6, a7, ha⟩ := mgAns_tuple (gpsM 0 0 false (r) (M))
  rw [ha] at HG ⊢
  clear ha
  have e9 : (9 : Int) < n := by omega
  have e10 : (10 : Int) < n := by omega
  clear hn
  go_enter Tryz.func34, Tryz.ntmps34
  go_upto_region 1 with fail
  obtain ⟨W, hW, g0, hc2, x, f⟩ := msg_worlds w C 44 27
  rw [hW]
  clear hW
  have hv2 := hc2 _ _ hv
  clear hc2 hv
  replace k9 := (g0.cell hb).trans k9
  replace k10 := (g0.cell hb).trans k10
  have hwh : w.heap.size < W.heap.size := by have := x.1; omega
  have hb0 := hb
  replace hb := Nat.lt_of_lt_of_le hb g0.size
  obtain ⟨F, hF1, hF2⟩ := one_block (w.heap.size + 1)
  have KS : ∀ w', Far F W w' → Hid (w'.cell? ⟨w.heap.size, 25, none⟩ = some (.slice (some ⟨b, o, none⟩) n c) ∧ w'.cell? ⟨b, o + 9, none⟩ = some (.int .i64 z9) ∧ w'.cell? ⟨b, o + 10, none⟩ = some (.int .i64 z10)) := fun w' g => Lib.hid ⟨(g.cell hwh (hF2 _ (by simp))).trans hv2, (g.cell hb (hF2 _ (by simp; omega))).trans k9, (g.cell hb (hF2 _ (by simp; omega))).trans k10⟩
  have D := (Grew.refl W).drew
  go_region_held3 (fun w' => w'.cell? ⟨w.heap.size, 25, none⟩ = some (.slice (some ⟨b, o, none⟩) n c) ∧ w'.cell? ⟨b, o + 9, none⟩ = some (.int .i64 z9) ∧ w'.cell? ⟨b, o + 10, none⟩ = some (.int .i64 z10)) (first | (with_reducible exact (KS _ (Far.of_grew D)).out) | (with_reducible exact (KS _ (Far.of_grew (D.trans g1))).out) | (with_reducible exact (KS _ (six_far (Far.of_grew (D.trans g1)) hF1 _ _ _ _ _ _)).out)) (first | (go_at_call 59; refine (HG _).out.mono ?_; rintro e w1 ⟨rfl, g1⟩; obtain ⟨x0, c0, c1, c2, c3, c4, c5⟩ := x.grew (D.trans g1); obtain ⟨f0, f1, f2, f3, f4, f5⟩ := f.grew x.1 (D.trans g1)))
  all_goals go_wp2_with fail
  all_goals (refine bodyPost_ret (by simp [results, Tryz.results34, go_sem, c0, c1, c2, c3, c4, c5]; try rfl) rfl ?_)
  all_goals exact ⟨rfl, six_put _ (g0.trans (D.trans g1)) (by omega) _ _ _ _ _ _⟩
-- sirf2S]
-- [sirf4S
set_option maxRecDepth 100000 in
set_option maxHeartbeats 4000000 in
theorem msg_sirf4Second (C : Array Value) (zs : List Int) (w : World) (hC : ValC w C zs) (hn : 3 ≤ zs.length) (bw : -32768 ≤ zi zs 0 ∧ zi zs 0 ≤ 65535) (bm : -4294967296 ≤ zi zs 1 ∧ zi zs 1 ≤ 4294967296) :
    Calls Tryz.prog 36 #[.agg C] w fun e w' => e = .returned (mgAns (gpsM 0 0 false (zi zs 0 % 1024) (10 * zi zs 1))) ∧ Grew w w' := by
  obtain ⟨b, o, c, hv, hc, hb, hcell⟩ := hC.out (by omega)
  have k0 := hcell 0 (by omega)
  have k1 := hcell 1 (by omega)
  rw [Nat.add_zero] at k0
  clear hcell hC
  generalize zi zs 0 = z0 at *
  generalize zi zs 1 = z1 at *
  generalize zs.length = n at *
  clear zs
  obtain ⟨M, hM, hM2⟩ : ∃ M, IntKind.i64.wrap (z1 * 10) = M ∧ 10 * z1 = M := ⟨_, rfl, by rw [wrap_i64_in _ (by omega)]; omega⟩
  have bM : -42949672960 ≤ M ∧ M ≤ 42949672960 := by omega
  rw [hM2]
  clear hM2
  have lw := low1023 z0 bw
  have bw2 : 0 ≤ z0 % 1024 ∧ z0 % 1024 ≤ 65535 := by omega
  generalize z0 % 1024 = r at *
  have HG := fun w => Lib.hid (msg_ofGPS (r) (M) w (by omega) (by omega))
  obtain ⟨a1, a2, a3, a4, a5, a6, a7, ha⟩ := mgAns_tuple (gpsM 0 0 false (r) (M))
  rw [ha] at HG ⊢
  clear ha
  have e0 : 0 < n := by omega
  have e1 : (1 : Int) < n := by omega
  clear hn
  go_enter Tryz.func36, Tryz.ntmps36
  go_upto_region 1 with fail
  obtain ⟨W, hW, g0, hc2, x, f⟩ := msg_worlds w C 44 27
  rw [hW]
  clear hW
  have hv2 := hc2 _ _ hv
  clear hc2 hv
  replace k0 := (g0.cell hb).trans k0
  replace k1 := (g0.cell hb).trans k1
  have hwh : w.heap.size < W.heap.size := by have := x.1; omega
  have hb0 := hb
  replace hb := Nat.lt_of_lt_of_le hb g0.size
  obtain ⟨F, hF1, hF2⟩ := one_block (w.heap.size + 1)
  have KS : ∀ w', Far F W w' → Hid (w'.cell? ⟨w.heap.size, 25, none⟩ = some (.slice (some ⟨b, o, none⟩) n c) ∧ w'.cell? ⟨b, o, none⟩ = some (.int .i64 z0) ∧ w'.cell? ⟨b, o + 1, none⟩ = some (.int .i64 z1)) := fun w' g => Lib.hid ⟨(g.cell hwh (hF2 _ (by simp))).trans hv2, (g.cell hb (hF2 _ (by simp; omega))).trans k0, (g.cell hb (hF2 _ (by simp; omega))).trans k1⟩
  have D := (Grew.refl W).drew
  go_region_held3 (fun w' => w'.cell? ⟨w.heap.size, 25, none⟩ = some (.slice (some ⟨b, o, none⟩) n c) ∧ w'.cell? ⟨b, o, none⟩ = some (.int .i64 z0) ∧ w'.cell? ⟨b, o + 1, none⟩ = some (.int .i64 z1)) (first | (with_reducible exact (KS _ (Far.of_grew D)).out) | (with_reducible exact (KS _ (Far.of_grew (D.trans g1))).out) | (with_reducible exact (KS _ (six_far (Far.of_grew (D.trans g1)) hF1 _ _ _ _ _ _)).out)) (first | (go_at_call 59; refine (HG _).out.mono ?_; rintro e w1 ⟨rfl, g1⟩; obtain ⟨x0, c0, c1, c2, c3, c4, c5⟩ := x.grew (D.trans g1); obtain ⟨f0, f1, f2, f3, f4, f5⟩ := f.grew x.1 (D.trans g1)))
  all_goals go_wp2_with fail
  all_goals (refine bodyPost_ret (by simp [results, Tryz.results36, go_sem, c0, c1, c2, c3, c4, c5]; try rfl) rfl ?_)
  all_goals exact ⟨rfl, six_put _ (g0.trans (D.trans g1)) (by omega) _ _ _ _ _ _⟩
-- sirf4S]
-- [sirf7S
set_option maxRecDepth 100000 in
set_option maxHeartbeats 4000000 in
theorem msg_sirf7Second (C : Array Value) (zs : List Int) (w : World) (hC : ValC w C zs) (hn : 3 ≤ zs.length) (bw : 0 ≤ zi zs 0 ∧ zi zs 0 ≤ 65535) (bm : -4294967296 ≤ zi zs 1 ∧ zi zs 1 ≤ 4294967296) :
    Calls Tryz.prog 38 #[.agg C] w fun e w' => e = .returned (mgAns (gpsM 0 0 false (zi zs 0) (10 * zi zs 1))) ∧ Grew w w' := by
  obtain ⟨b, o, c, hv, hc, hb, hcell⟩ := hC.out (by omega)
  have k0 := hcell 0 (by omega)
  have k1 := hcell 1 (by omega)
  rw [Nat.add_zero] at k0
  clear hcell hC
  generalize zi zs 0 = z0 at *
  generalize zi zs 1 = z1 at *
  generalize zs.length = n at *
  clear zs
  obtain ⟨M, hM, hM2⟩ : ∃ M, IntKind.i64.wrap (z1 * 10) = M ∧ 10 * z1 = M := ⟨_, rfl, by rw [wrap_i64_in _ (by omega)]; omega⟩
  have bM : -42949672960 ≤ M ∧ M ≤ 42949672960 := by omega
  rw [hM2]
  clear hM2
  have HG := fun w => Lib.hid (msg_ofGPS (z0) (M) w (by omega) (by omega))
  obtain ⟨a1, a2, a3, a4, a5, a6, a7, ha⟩ := mgAns_tuple (gpsM 0 0 false (z0) (M))
  rw [ha] at HG ⊢
  clear ha
  have e0 : 0 < n := by omega
  have e1 : (1 : Int) < n := by omega
  clear hn
  go_enter Tryz.func38, Tryz.ntmps38
  go_upto_region 1 with fail
  obtain ⟨W, hW, g0, hc2, x, f⟩ := msg_worlds w C 44 27
  rw [hW]
  clear hW
  have hv2 := hc2 _ _ hv
  clear hc2 hv
  replace k0 := (g0.cell hb).trans k0
  replace k1 := (g0.cell hb).trans k1
  have hwh : w.heap.size < W.heap.size := by have := x.1; omega
  have hb0 := hb
  replace hb := Nat.lt_of_lt_of_le hb g0.size
  obtain ⟨F, hF1, hF2⟩ := one_block (w.heap.size + 1)
  have KS : ∀ w', Far F W w' → Hid (w'.cell? ⟨w.heap.size, 25, none⟩ = some (.slice (some ⟨b, o, none⟩) n c) ∧ w'.cell? ⟨b, o, none⟩ = some (.int .i64 z0) ∧ w'.cell? ⟨b, o + 1, none⟩ = some (.int .i64 z1)) := fun w' g => Lib.hid ⟨(g.cell hwh (hF2 _ (by simp))).trans hv2, (g.cell hb (hF2 _ (by simp; omega))).trans k0, (g.cell hb (hF2 _ (by simp; omega))).trans k1⟩
  have D := (Grew.refl W).drew
  go_region_held3 (fun w' => w'.cell? ⟨w.heap.size, 25, none⟩ = some (.slice (some ⟨b, o, none⟩) n c) ∧ w'.cell? ⟨b, o, none⟩ = some (.int .i64 z0) ∧ w'.cell? ⟨b, o + 1, none⟩ = some (.int .i64 z1)) (first | (with_reducible exact (KS _ (Far.of_grew D)).out) | (with_reducible exact (KS _ (Far.of_grew (D.trans g1))).out) | (with_reducible exact (KS _ (six_far (Far.of_grew (D.trans g1)) hF1 _ _ _ _ _ _)).out)) (first | (go_at_call 59; refine (HG _).out.mono ?_; rintro e w1 ⟨rfl, g1⟩; obtain ⟨x0, c0, c1, c2, c3, c4, c5⟩ := x.grew (D.trans g1); obtain ⟨f0, f1, f2, f3, f4, f5⟩ := f.grew x.1 (D.trans g1)))
  all_goals go_wp2_with fail
  all_goals (refine bodyPost_ret (by simp [results, Tryz.results38, go_sem, c0, c1, c2, c3, c4, c5]; try rfl) rfl ?_)
  all_goals exact ⟨rfl, six_put _ (g0.trans (D.trans g1)) (by omega) _ _ _ _ _ _⟩
-- sirf7S]
end Go.Proofs.YtnhigfkhdmkoeaaGreatDoor

namespace Go.Proofs.YtnhigfkhdmkoeaaGreatDoor
open Go.RowKit
set_option linter.unusedVariables false

-- [pvtS
set_option maxRecDepth 100000 in
set_option maxHeartbeats 4000000 in
theorem msg_pvtSecond (C : Array Value) (zs : List Int) (w : World) (hC : ValC w C zs) (hn : 12 ≤ zs.length) (b0 : 0 ≤ zi zs 1 ∧ zi zs 1 ≤ 65535) (b1 : 0 ≤ zi zs 2 ∧ zi zs 2 ≤ 65535) (b2 : 0 ≤ zi zs 3 ∧ zi zs 3 ≤ 65535) (b3 : 0 ≤ zi zs 4 ∧ zi zs 4 ≤ 65535) (b4 : 0 ≤ zi zs 5 ∧ zi zs 5 ≤ 65535) (b5 : 0 ≤ zi zs 6 ∧ zi zs 6 ≤ 65535) (ht : Tab w) :
    Calls Tryz.prog 26 #[.agg C] w fun e w' => e = .returned (mgAns (utcM 0 0 (zi zs 1) (zi zs 2) (zi zs 3) (zi zs 4) (zi zs 5) (zi zs 6))) ∧ Grew w w' := by
  obtain ⟨b, o, c, hv, hc, hb, hcell⟩ := hC.out (by omega)
  have HR := Lib.hid (rowZ_cut (b := b) (o := o) (c := c) rfl hc hb hcell 1 (by omega))
  have HM := fun w h => Lib.hid (msg_momentOfValues (.slice (some ⟨b, o + 1, none⟩) (zs.length - 1) (c - 1)) (zs.drop 1) w h (by rw [List.length_drop]; omega))
  simp only [zi_drop] at HM
  have HU := fun w t => Lib.hid (msg_ofUTC (zi zs 1) (zi zs 2) (zi zs 3) (zi zs 4) (zi zs 5) (zi zs 6) w (by omega) (by omega) (by omega) (by omega) (by omega) (by omega) t)
  obtain ⟨a1, a2, a3, a4, a5, a6, a7, ha⟩ := mgAns_tuple (utcM 0 0 (zi zs 1) (zi zs 2) (zi zs 3) (zi zs 4) (zi zs 5) (zi zs 6))
  rw [ha] at HU ⊢
  clear ha hcell hC b0 b1 b2 b3 b4 b5
  have e1 : 1 ≤ zs.length := by omega
  have ec : ¬ c = 1 := by omega
  have HT := Lib.hid ht
  clear ht
  generalize zs.drop 1 = ys at *
  generalize zi zs 1 = z0 at *
  generalize zi zs 2 = z1 at *
  generalize zi zs 3 = z2 at *
  generalize zi zs 4 = z3 at *
  generalize zi zs 5 = z4 at *
  generalize zi zs 6 = z5 at *
  generalize zs.length = n at *
  clear hn
  go_enter Tryz.func26, Tryz.ntmps26
  go_upto_region 1 with fail
  obtain ⟨W, hW, g0, hc2, x, f⟩ := msg_worlds w C 44 27
  rw [hW]
  clear hW
  have hv2 := hc2 _ _ hv
  clear hc2 hv
  go_wp2_with (first | (go_at_call 58; refine (HM _ (HR.out.grew g0)).out.mono ?_; rintro e w1 ⟨rfl, g1⟩) | (go_at_call 57; refine (HU _ (HT.out.grew (g0.trans g1))).out.mono ?_; rintro e w2 ⟨rfl, g2⟩; obtain ⟨x0, c0, c1, c2, c3, c4, c5⟩ := x.grew (g1.trans g2); obtain ⟨f0, f1, f2, f3, f4, f5⟩ := f.grew x.1 (g1.trans g2)))
  refine bodyPost_ret (by simp [results, Tryz.results26, go_sem, c0, c1, c2, c3, c4, c5]; try rfl) rfl ?_
  exact ⟨rfl, six_put _ (g0.trans (g1.trans g2)) (by omega) _ _ _ _ _ _⟩
-- pvtS]
-- [timeUTCS
set_option maxRecDepth 100000 in
set_option maxHeartbeats 4000000 in
theorem msg_timeUTCSecond (C : Array Value) (zs : List Int) (w : World) (hC : ValC w C zs) (hn : 10 ≤ zs.length) (b0 : 0 ≤ zi zs 3 ∧ zi zs 3 ≤ 65535) (b1 : 0 ≤ zi zs 4 ∧ zi zs 4 ≤ 65535) (b2 : 0 ≤ zi zs 5 ∧ zi zs 5 ≤ 65535) (b3 : 0 ≤ zi zs 6 ∧ zi zs 6 ≤ 65535) (b4 : 0 ≤ zi zs 7 ∧ zi zs 7 ≤ 65535) (b5 : 0 ≤ zi zs 8 ∧ zi zs 8 ≤ 65535) (ht : Tab w) :
    Calls Tryz.prog 30 #[.agg C] w fun e w' => e = .returned (mgAns (utcM 0 0 (zi zs 3) (zi zs 4) (zi zs 5) (zi zs 6) (zi zs 7) (zi zs 8))) ∧ Grew w w' := by
  obtain ⟨b, o, c, hv, hc, hb, hcell⟩ := hC.out (by omega)
  have HR := Lib.hid (rowZ_cut (b := b) (o := o) (c := c) rfl hc hb hcell 3 (by omega))
  have HM := fun w h => Lib.hid (msg_momentOfValues (.slice (some ⟨b, o + 3, none⟩) (zs.length - 3) (c - 3)) (zs.drop 3) w h (by rw [List.length_drop]; omega))
  simp only [zi_drop] at HM
  have HU := fun w t => Lib.hid (msg_ofUTC (zi zs 3) (zi zs 4) (zi zs 5) (zi zs 6) (zi zs 7) (zi zs 8) w (by omega) (by omega) (by omega) (by omega) (by omega) (by omega) t)
  obtain ⟨a1, a2, a3, a4, a5, a6, a7, ha⟩ := mgAns_tuple (utcM 0 0 (zi zs 3) (zi zs 4) (zi zs 5) (zi zs 6) (zi zs 7) (zi zs 8))
  rw [ha] at HU ⊢
  clear ha hcell hC b0 b1 b2 b3 b4 b5
  have e1 : 3 ≤ zs.length := by omega
  have ec : ¬ c = 3 := by omega
  have HT := Lib.hid ht
  clear ht
  generalize zs.drop 3 = ys at *
  generalize zi zs 3 = z0 at *
  generalize zi zs 4 = z1 at *
  generalize zi zs 5 = z2 at *
  generalize zi zs 6 = z3 at *
  generalize zi zs 7 = z4 at *
  generalize zi zs 8 = z5 at *
  generalize zs.length = n at *
  clear hn
  go_enter Tryz.func30, Tryz.ntmps30
  go_upto_region 1 with fail
  obtain ⟨W, hW, g0, hc2, x, f⟩ := msg_worlds w C 44 27
  rw [hW]
  clear hW
  have hv2 := hc2 _ _ hv
  clear hc2 hv
  go_wp2_with (first | (go_at_call 58; refine (HM _ (HR.out.grew g0)).out.mono ?_; rintro e w1 ⟨rfl, g1⟩) | (go_at_call 57; refine (HU _ (HT.out.grew (g0.trans g1))).out.mono ?_; rintro e w2 ⟨rfl, g2⟩; obtain ⟨x0, c0, c1, c2, c3, c4, c5⟩ := x.grew (g1.trans g2); obtain ⟨f0, f1, f2, f3, f4, f5⟩ := f.grew x.1 (g1.trans g2)))
  refine bodyPost_ret (by simp [results, Tryz.results30, go_sem, c0, c1, c2, c3, c4, c5]; try rfl) rfl ?_
  exact ⟨rfl, six_put _ (g0.trans (g1.trans g2)) (by omega) _ _ _ _ _ _⟩
-- timeUTCS]
-- [sirf41S
set_option maxRecDepth 100000 in
set_option maxHeartbeats 4000000 in
theorem msg_sirf41Second (C : Array Value) (zs : List Int) (w : World) (hC : ValC w C zs) (hn : 10 ≤ zs.length) (b0 : 0 ≤ zi zs 4 ∧ zi zs 4 ≤ 65535) (b1 : 0 ≤ zi zs 5 ∧ zi zs 5 ≤ 65535) (b2 : 0 ≤ zi zs 6 ∧ zi zs 6 ≤ 65535) (b3 : 0 ≤ zi zs 7 ∧ zi zs 7 ≤ 65535) (b4 : 0 ≤ zi zs 8 ∧ zi zs 8 ≤ 65535) (b5 : 0 ≤ zi zs 9 ∧ zi zs 9 ≤ 65535) (ht : Tab w) :
    Calls Tryz.prog 40 #[.agg C] w fun e w' => e = .returned (mgAns (utcM 0 0 (zi zs 4) (zi zs 5) (zi zs 6) (zi zs 7) (zi zs 8) (zi zs 9 / 1000))) ∧ Grew w w' := by
  obtain ⟨b, o, c, hv, hc, hb, hcell⟩ := hC.out (by omega)
  have HR := Lib.hid (rowZ_cut (b := b) (o := o) (c := c) rfl hc hb hcell 4 (by omega))
  have HM := fun w h => Lib.hid (msg_momentOfValues (.slice (some ⟨b, o + 4, none⟩) (zs.length - 4) (c - 4)) (zs.drop 4) w h (by rw [List.length_drop]; omega))
  simp only [zi_drop] at HM
  have HU := fun w t => Lib.hid (msg_ofUTC (zi zs 4) (zi zs 5) (zi zs 6) (zi zs 7) (zi zs 8) (zi zs 9 / 1000) w (by omega) (by omega) (by omega) (by omega) (by omega) (by omega) t)
  obtain ⟨a1, a2, a3, a4, a5, a6, a7, ha⟩ := mgAns_tuple (utcM 0 0 (zi zs 4) (zi zs 5) (zi zs 6) (zi zs 7) (zi zs 8) (zi zs 9 / 1000))
  rw [ha] at HU ⊢
  clear ha hcell hC b0 b1 b2 b3 b4
  have e1 : 4 ≤ zs.length := by omega
  have ec : ¬ c = 4 := by omega
  have HT := Lib.hid ht
  clear ht
  generalize zs.drop 4 = ys at *
  generalize zi zs 4 = z0 at *
  generalize zi zs 5 = z1 at *
  generalize zi zs 6 = z2 at *
  generalize zi zs 7 = z3 at *
  generalize zi zs 8 = z4 at *
  generalize zi zs 9 = z5 at *
  generalize zs.length = n at *
  clear hn
  go_enter Tryz.func40, Tryz.ntmps40
  go_upto_region 1 with fail
  obtain ⟨W, hW, g0, hc2, x, f⟩ := msg_worlds w C 44 27
  rw [hW]
  clear hW
  have hv2 := hc2 _ _ hv
  clear hc2 hv
  go_wp2_with (first | (go_at_call 58; refine (HM _ (HR.out.grew g0)).out.mono ?_; rintro e w1 ⟨rfl, g1⟩) | (go_at_call 57; refine (HU _ (HT.out.grew ((g0.trans g1).alloc _))).out.mono ?_; rintro e w2 ⟨rfl, g2⟩; obtain ⟨x0, c0, c1, c2, c3, c4, c5⟩ := x.grew ((g1.alloc _).trans g2); obtain ⟨f0, f1, f2, f3, f4, f5⟩ := f.grew x.1 ((g1.alloc _).trans g2)))
  refine bodyPost_ret (by simp [results, Tryz.results40, go_sem, c0, c1, c2, c3, c4, c5]; try rfl) rfl ?_
  exact ⟨rfl, six_put _ (g0.trans ((g1.alloc _).trans g2)) (by omega) _ _ _ _ _ _⟩
-- sirf41S]
-- [rmcS
set_option maxRecDepth 100000 in
set_option maxHeartbeats 4000000 in
theorem msg_rmcSecond (C D : Array Value) (v ht hd wh : Bool) (h i s d m y : Int) (w : World) (hC : PreC C D) (hD : FixC D v ht hd wh h i s d m y)
    (by_ : 0 ≤ y ∧ y ≤ 100000) (bm : -9223372036854775808 ≤ m ∧ m ≤ 9223372036854775807) (bd : -9223372036854775808 ≤ d ∧ d ≤ 9223372036854775807)
    (bh : -9223372036854775808 ≤ h ∧ h ≤ 9223372036854775807) (bi : -9223372036854775808 ≤ i ∧ i ≤ 9223372036854775807) (bs : -9223372036854775808 ≤ s ∧ s ≤ 9223372036854775807) (ht' : Tab w) :
    Calls Tryz.prog 22 #[.agg C] w fun e w' => e = .returned (mgAns (utcM 0 0 (y + 2000) m d h i s)) ∧ Grew w w' := by
  have HM := fun w => Lib.hid (msg_momentOfFix D v ht hd wh h i s d m y w hD)
  have HU := fun w t => Lib.hid (msg_ofUTC (y + 2000) m d h i s w (by omega) bm bd bh bi bs t)
  obtain ⟨a1, a2, a3, a4, a5, a6, a7, ha⟩ := mgAns_tuple (utcM 0 0 (y + 2000) m d h i s)
  rw [ha] at HU ⊢
  clear ha
  have HT := Lib.hid ht'
  have hI := Lib.hid (info_fix.trans (congrArg some hC.size.symm))
  have hAt := Lib.hid hC.at_
  clear hC hD ht' bm bd bh bi bs
  go_enter Tryz.func22, Tryz.ntmps22
  go_upto_region 1 with fail
  obtain ⟨W, hW, g0, hc, x, f⟩ := msg_worlds w C 44 27
  rw [hW]
  clear hW
  replace hc := Lib.hid (fun (k : Nat) (u : Value) (hk : D[k]? = some u) => hc k u (hAt.out k u hk))
  go_wp2_with (first | (refine wpList_load_mid rfl 42 _ rfl w.heap.size 0 rfl D.toList _ (fun j u hu => by rw [Nat.zero_add]; exact hc.out j u (by simpa using hu)) Tryz.underlying42 rfl (by simpa using hI.out) ?_) | (go_at_call 56; refine (HM _).out.mono ?_; rintro e w1 ⟨rfl, g1⟩) | (go_at_call 57; refine (HU _ (HT.out.grew ((g0.trans g1).alloc _))).out.mono ?_; rintro e w2 ⟨rfl, g2⟩; obtain ⟨x0, c0, c1, c2, c3, c4, c5⟩ := x.grew ((g1.alloc _).trans g2); obtain ⟨f0, f1, f2, f3, f4, f5⟩ := f.grew x.1 ((g1.alloc _).trans g2)))
  refine bodyPost_ret (by simp [results, Tryz.results22, go_sem, c0, c1, c2, c3, c4, c5]; try rfl) rfl ?_
  exact ⟨rfl, six_put _ (g0.trans ((g1.alloc _).trans g2)) (by omega) _ _ _ _ _ _⟩
-- rmcS]
-- [s52
set_option maxRecDepth 100000 in
set_option maxHeartbeats 4000000 in
theorem msg_sirf52Second (C : Array Value) (zs : List Int) (w : World) (hC : ValC w C zs) (hn : 9 ≤ zs.length) (b0 : 0 ≤ zi zs 0 ∧ zi zs 0 ≤ 65535) (b1 : 0 ≤ zi zs 1 ∧ zi zs 1 ≤ 65535) (b2 : 0 ≤ zi zs 2 ∧ zi zs 2 ≤ 65535) (b3 : 0 ≤ zi zs 3 ∧ zi zs 3 ≤ 65535) (b4 : 0 ≤ zi zs 4 ∧ zi zs 4 ≤ 65535) (b5 : 0 ≤ zi zs 5 ∧ zi zs 5 ≤ 65535) (ht : Tab w) :
    Calls Tryz.prog 42 #[.agg C] w fun e w' => e = .returned (mgAns (utcM 0 0 (zi zs 5) (zi zs 4) (zi zs 3) (zi zs 0) (zi zs 1) (zi zs 2))) ∧ Grew w w' := by
  obtain ⟨b, o, c, hv, hc, hb, hcell⟩ := hC.out (by omega)
  have k0 := hcell 0 (by omega)
  have k1 := hcell 1 (by omega)
  have k2 := hcell 2 (by omega)
  have k3 := hcell 3 (by omega)
  have k4 := hcell 4 (by omega)
  have k5 := hcell 5 (by omega)
  rw [Nat.add_zero] at k0
  clear hcell hC
  generalize zi zs 0 = z0 at *
  generalize zi zs 1 = z1 at *
  generalize zi zs 2 = z2 at *
  generalize zi zs 3 = z3 at *
  generalize zi zs 4 = z4 at *
  generalize zi zs 5 = z5 at *
  generalize zs.length = n at *
  clear zs
  have HM := fun v w h => Lib.hid (msg_momentOfValues v [z5, z4, z3, z0, z1, z2] w h (Nat.le_refl 6))
  have HU := fun w t => Lib.hid (msg_ofUTC z5 z4 z3 z0 z1 z2 w (by omega) (by omega) (by omega) (by omega) (by omega) (by omega) t)
  obtain ⟨a1, a2, a3, a4, a5, a6, a7, ha⟩ := mgAns_tuple (utcM 0 0 z5 z4 z3 z0 z1 z2)
  rw [ha] at HU ⊢
  clear ha b0 b1 b2 b3 b4 b5
  have HT := Lib.hid ht
  clear ht
  have e0 : 0 < n := by omega
  have e1 : (1 : Int) < n := by omega
  have e2 : (2 : Int) < n := by omega
  have e3 : (3 : Int) < n := by omega
  have e4 : (4 : Int) < n := by omega
  have e5 : (5 : Int) < n := by omega
  clear hn
  go_enter Tryz.func42, Tryz.ntmps42
  go_upto_region 2 with fail
  obtain ⟨W, hW, g0, hc2, x, f⟩ := msg_worlds w C 44 27
  try rw [hW]
  clear hW
  clear hc2 hv
  replace k0 := (g0.cell hb).trans k0
  replace k1 := (g0.cell hb).trans k1
  replace k2 := (g0.cell hb).trans k2
  replace k3 := (g0.cell hb).trans k3
  replace k4 := (g0.cell hb).trans k4
  replace k5 := (g0.cell hb).trans k5
  have hb0 := hb
  replace hb := Nat.lt_of_lt_of_le hb g0.size
  obtain ⟨F, hF1, hF2⟩ := one_block (w.heap.size + 1)
  have KS : ∀ w', Far F W w' → Hid (w'.cell? ⟨b, o, none⟩ = some (.int .i64 z0) ∧ w'.cell? ⟨b, o + 1, none⟩ = some (.int .i64 z1) ∧ w'.cell? ⟨b, o + 2, none⟩ = some (.int .i64 z2) ∧ w'.cell? ⟨b, o + 3, none⟩ = some (.int .i64 z3) ∧ w'.cell? ⟨b, o + 4, none⟩ = some (.int .i64 z4) ∧ w'.cell? ⟨b, o + 5, none⟩ = some (.int .i64 z5)) := fun w' g => Lib.hid ⟨(g.cell hb (hF2 _ (by simp; omega))).trans k0, (g.cell hb (hF2 _ (by simp; omega))).trans k1, (g.cell hb (hF2 _ (by simp; omega))).trans k2, (g.cell hb (hF2 _ (by simp; omega))).trans k3, (g.cell hb (hF2 _ (by simp; omega))).trans k4, (g.cell hb (hF2 _ (by simp; omega))).trans k5⟩
  have R6 := Lib.hid (row_litZ W .i64 2 (0, 0) [z5, z4, z3, z0, z1, z2])
  simp only [cellsZ, List.map, List.length] at R6
  have D := (Grew.refl W).drew
  have DA := ((Grew.refl W).alloc (.cells #[.int .i64 z5, .int .i64 z4, .int .i64 z3, .int .i64 z0, .int .i64 z1, .int .i64 z2] 2)).drew
  go_region_held3 (fun w' => w'.cell? ⟨b, o, none⟩ = some (.int .i64 z0) ∧ w'.cell? ⟨b, o + 1, none⟩ = some (.int .i64 z1) ∧ w'.cell? ⟨b, o + 2, none⟩ = some (.int .i64 z2) ∧ w'.cell? ⟨b, o + 3, none⟩ = some (.int .i64 z3) ∧ w'.cell? ⟨b, o + 4, none⟩ = some (.int .i64 z4) ∧ w'.cell? ⟨b, o + 5, none⟩ = some (.int .i64 z5)) (first | (with_reducible exact (KS _ (Far.of_grew D)).out) | (with_reducible exact (KS _ (Far.of_grew DA)).out) | (with_reducible exact (KS _ (Far.of_grew (DA.trans g1))).out) | (with_reducible exact (KS _ (Far.of_grew (DA.trans (g1.trans g2)))).out) | (with_reducible exact (KS _ (six_far (Far.of_grew (DA.trans (g1.trans g2))) hF1 _ _ _ _ _ _)).out)) (first | (go_at_call 58; refine (HM _ _ (R6.out.grew (Grew.refl _).drew)).out.mono ?_; rintro e w1 ⟨rfl, g1⟩) | (go_at_call 57; refine (HU _ (HT.out.grew (g0.trans (DA.trans g1)))).out.mono ?_; rintro e w2 ⟨rfl, g2⟩; obtain ⟨x0, c0, c1, c2, c3, c4, c5⟩ := x.grew (DA.trans (g1.trans g2)); obtain ⟨f0, f1, f2, f3, f4, f5⟩ := f.grew x.1 (DA.trans (g1.trans g2))))
  all_goals go_wp2_with fail
  all_goals (refine bodyPost_ret (by simp [results, Tryz.results42, go_sem, c0, c1, c2, c3, c4, c5]; try rfl) rfl ?_)
  all_goals exact ⟨rfl, six_put _ (g0.trans (DA.trans (g1.trans g2))) (by omega) _ _ _ _ _ _⟩
-- s52]
end Go.Proofs.YtnhigfkhdmkoeaaGreatDoor

namespace Go.Proofs.YtnhigfkhdmkoeaaGreatDoor
open Go.RowKit
set_option linter.unusedVariables false

/-- What reading a frame tells. -/
def ReadsAs (a b c : Nat) (ok : Bool) (CP : World → Array Value → Prop) (fr : Value) (w : World) : Prop :=
  Calls Tryz.prog 9 #[fr] w fun e w' => ∃ C, e = .returned (.tuple #[.agg #[.int .u8 (a : Nat), .int .u8 (b : Nat), .int .u8 (c : Nat)], .agg C, .bool ok]) ∧ C.size = 26 ∧ C.all (·.oneCell') = true ∧ CP w' C ∧ Grew w w'
theorem of_begin (w : World) (x v : Value) (E T : TypeId) : ∃ W, (w.alloc (.cells #[x, v] E)).alloc (.cells #[.int .u8 0, .bool false, .int .i64 0, .bool false, .int .i64 0, .bool false] T) = W ∧ Grew w W ∧ W.heap.size = w.heap.size + 2 ∧ TwoC W w.heap.size x v ∧ Six W (w.heap.size + 1) (.int .u8 0) (.bool false) (.int .i64 0) (.bool false) (.int .i64 0) (.bool false) ∧ Wet W (w.heap.size + 1) := by
  refine ⟨_, rfl, ((Grew.refl w).alloc _).alloc _, by simp, ⟨by simp; omega, ?_, ?_, ?_, ?_⟩, ⟨by simp, ?_, ?_, ?_, ?_, ?_, ?_⟩, ?_, ?_, ?_, ?_, ?_, ?_⟩ <;> simp [go_sem]
theorem of_z (w : World) (a b c : Nat) (Z : Array Value) (T1 T2 : TypeId) : ((w.alloc (.cells #[.int .u8 (a : Nat), .int .u8 (b : Nat), .int .u8 (c : Nat)] T1)).alloc (.cells Z T2)).heap[w.heap.size + 1]? = some (.cells Z T2) := by
  have h2 := heap_alloc_new (w.alloc (.cells (keyC a b c) T1)) (.cells Z T2)
  rw [show (w.alloc (.cells (keyC a b c) T1)).heap.size = w.heap.size + 1 by simp] at h2
  exact h2
theorem of_vars (w : World) (a b c : Nat) (C Z : Array Value) (T1 T2 : TypeId) : ∃ V, ((w.alloc (.cells #[.int .u8 (a : Nat), .int .u8 (b : Nat), .int .u8 (c : Nat)] T1)).alloc (.cells Z T2)).setRow (w.heap.size + 1) C = V ∧ Grew w V ∧ V.heap.size = w.heap.size + 2 ∧ V.heap[w.heap.size]? = some (.cells (keyC a b c) T1) ∧ V.heap[w.heap.size + 1]? = some (.cells C T2) := by
  have h1 := heap_alloc_new w (.cells (keyC a b c) T1)
  have s1 : (w.alloc (.cells (keyC a b c) T1)).heap.size = w.heap.size + 1 := by simp
  have g2 := (Grew.refl (w.alloc (.cells (keyC a b c) T1))).alloc (.cells Z T2)
  have hz := of_z w a b c Z T1 T2
  have g3 : Grew w ((w.alloc (.cells #[.int .u8 (a : Nat), .int .u8 (b : Nat), .int .u8 (c : Nat)] T1)).alloc (.cells Z T2)) := ((Grew.refl w).alloc _).alloc _
  refine ⟨_, rfl, Far.grew (far_setRow _ _ _) g3 (fun k hk => by subst hk; omega), by simp [World.setRow], ?_, setRow_heap _ _ Z C T2 (0, 0) hz⟩
  rw [setRow_other _ _ _ _ (by omega)]
  exact (Below.block g2 w.heap.size (by rw [s1]; omega)).trans h1
-- [NONE
set_option maxRecDepth 1000000 in
set_option maxHeartbeats 4000000 in
theorem msg_Of_no (a b c : Nat) (CP : World → Array Value → Prop) (x : Nat) (v : Value) (w : World) (hv : ∃ A n m, v = .slice A n m) (HR : ∀ w', Grew w w' → ReadsAs a b c false CP (.agg #[.int .u8 (x : Nat), v]) w') :
    Calls Tryz.prog 6 #[.agg #[.int .u8 (x : Nat), v]] w fun e w' => e = .returned (mgAns none) ∧ Grew w w' := by
  obtain ⟨A, n, m, rfl⟩ := hv
  unfold ReadsAs at HR
  have HI := Lib.hid cont_zero.2
  have HZ := Lib.hid cont_zero.1
  obtain ⟨Z, hz⟩ : ∃ Z, (Told.cells {}).push (.slice none 0 0) = Z := ⟨_, rfl⟩
  have hZs : Hid (Z.size = 26) := Lib.hid (by rw [← hz]; rfl)
  rw [hz] at HZ
  clear hz
  replace HR := Lib.hid HR
  go_enter Tryz.func6, Tryz.ntmps6
  go_upto_region 1 with fail
  obtain ⟨W, hW, g0, sW, T0, x6, f6⟩ := of_begin w (.int .u8 (x : Nat)) (.slice A n m) 24 27
  rw [hW]
  clear hW
  obtain ⟨_, s0, s1, _, _⟩ := T0
  go_upto_region 2 with (first | (go_at_call 9; refine (HR.out _ g0).mono ?_; rintro e w1 ⟨C, rfl, hcs, hco, hcp, g1⟩) | (refine wpList_alloc_as rfl 44 rfl Z HZ.out ?_) | (refine wpList_store_at rfl 44 _ _ rfl (w1.heap.size + 1) C Z 44 (of_z w1 a b c Z _ _) rfl rfl (by rw [HI.out, hcs]) (by rw [hZs.out, hcs]) hco ?_))
  obtain ⟨V, hV, gV, sV, v4, v5⟩ := of_vars w1 a b c C Z 38 44
  rw [hV]
  obtain ⟨x0, c0, c1, c2, c3, c4, c5⟩ := x6.grew (g1.trans gV)
  obtain ⟨f0, f1, f2, f3, f4, f5⟩ := f6.grew x6.1 (g1.trans gV)
  clear hV v4 v5
  go_wp2_with fail
  refine bodyPost_ret (by simp [results, Tryz.results6, go_sem, c0, c1, c2, c3, c4, c5]; try rfl) rfl ?_
  exact ⟨rfl, six_put _ (g0.trans (g1.trans gV)) (by omega) _ _ _ _ _ _⟩
-- NONE]
-- [MISS
theorem kind_size : Hid ((Tryz.prog.info? 50).map (·.size) = some 5) := Lib.hid (by kernel_rfl)
set_option maxRecDepth 1000000 in
set_option maxHeartbeats 4000000 in
theorem msg_Of_miss (a b c : Nat) (CP : World → Array Value → Prop) (x : Nat) (v : Value) (w : World) (hv : ∃ A n m, v = .slice A n m) (hn : ∀ k ∈ mRows, same3 a b c k.a k.b k.c = false) (HR : ∀ w', Grew w w' → ReadsAs a b c true CP (.agg #[.int .u8 (x : Nat), v]) w')
    (hCP : ∀ w w' C, CP w C → Grew w w' → CP w' C) :
    Calls Tryz.prog 6 #[.agg #[.int .u8 (x : Nat), v]] w fun e w' => e = .returned (mgAns none) ∧ Grew w w' := by
  obtain ⟨A, n, m, rfl⟩ := hv
  unfold ReadsAs at HR
  have HI := Lib.hid cont_zero.2
  have HZ := Lib.hid cont_zero.1
  obtain ⟨Z, hz⟩ : ∃ Z, (Told.cells {}).push (.slice none 0 0) = Z := ⟨_, rfl⟩
  have hZs : Hid (Z.size = 26) := Lib.hid (by rw [← hz]; rfl)
  rw [hz] at HZ
  clear hz
  replace HR := Lib.hid HR
  go_enter Tryz.func6, Tryz.ntmps6
  go_upto_region 1 with fail
  obtain ⟨W, hW, g0, sW, T0, x6, f6⟩ := of_begin w (.int .u8 (x : Nat)) (.slice A n m) 24 27
  rw [hW]
  clear hW
  obtain ⟨_, s0, s1, _, _⟩ := T0
  go_upto_region 4 with (first | (go_at_call 9; refine (HR.out _ g0).mono ?_; rintro e w1 ⟨C, rfl, hcs, hco, hcp, g1⟩) | (refine wpList_alloc_as rfl 44 rfl Z HZ.out ?_) | (refine wpList_store_at rfl 44 _ _ rfl (w1.heap.size + 1) C Z 44 (of_z w1 a b c Z _ _) rfl rfl (by rw [HI.out, hcs]) (by rw [hZs.out, hcs]) hco ?_))
  obtain ⟨V, hV, gV, sV, v4, v5⟩ := of_vars w1 a b c C Z 38 44
  rw [hV]
  have H4 := Lib.hid v4
  have H5 := Lib.hid v5
  have X6 := Lib.hid (x6.grew (g1.trans gV))
  have F6 := Lib.hid (f6.grew x6.1 (g1.trans gV))
  have G := Lib.hid (g0.trans (g1.trans gV))
  have hcp2 := Lib.hid (hCP _ _ _ hcp gV)
  have hlw : w.heap.size + 2 ≤ w1.heap.size := by have := g1.size; omega
  clear hV v4 v5 s0 s1 g0 x6 f6 hcp g1 gV
  have HL : Hid (∀ w v, MKindsAt w v → (Instr.lookup 52 v (.agg (keyC a b c)) true).run Tryz.prog w = .ok (.tuple #[.agg kindZ, .bool false]) w) := Lib.hid fun w v h => mkinds_miss w v h a b c hn
  clear hn
  go_cut [2, 6, 7] (fun r s t wx => r = .pointer (some ⟨w.heap.size + 1, 0, none⟩) ∧ s = .bool false ∧ Hid (Grew V wx))
  case first =>
    refine wp_thenS (mof_look w1.heap.size a b c kindZ false V H4 HL kind_size (Lib.hid rfl) (Lib.hid (by kernel_rfl)) _ _ _ _ _ _ _ _ _ _ _ _ _ _ _ _ _ _ _ _ _ _ _ _ _ _ _ _ _ _ _ _ _ _ _ _ _ _ _ _ _ _ _ _ _ _ _ _ _ _ _ _ _ _ (fun p wx s18 s19 s20 s21 s22 s23 hp h7 hg => ?_))
    go_wp2_with fail
    go_meet
    case rel => exact ⟨rfl, rfl, Lib.hid hg⟩
  case rest =>
    obtain ⟨rfl, rfl, hg⟩ := hcut
    obtain ⟨x0, c0, c1, c2, c3, c4, c5⟩ := X6.out.grew hg.out
    obtain ⟨f0, f1, f2, f3, f4, f5⟩ := F6.out.grew X6.out.1 hg.out
    go_wp2_with fail
    refine bodyPost_ret (by simp [results, Tryz.results6, go_sem, c0, c1, c2, c3, c4, c5]; try rfl) rfl ?_
    exact ⟨rfl, six_put _ (G.out.trans hg.out) (by omega) _ _ _ _ _ _⟩
-- MISS]
end Go.Proofs.YtnhigfkhdmkoeaaGreatDoor


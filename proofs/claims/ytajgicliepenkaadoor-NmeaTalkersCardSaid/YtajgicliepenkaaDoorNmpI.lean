/-
  The program's sentences: GLL, VTG, RMC.
-/
import Derived.Test.YtajgicliepenkaaDoorNmpH
namespace Go.Proofs.YtajgicliepenkaaDoor
open Go.RowKit
set_option linter.unusedVariables false

section
variable {w w' : World} {S n c E X : Nat} {bs : List ByteArray} {s : Rs}
set_option maxHeartbeats 4000000 in
set_option maxRecDepth 100000 in
theorem r_gll (h : Rd w S n c bs E X s) (hn : 7 ≤ n) : Calls Tryd.prog 28 #[rv S n c E, .pointer (some ⟨X, 0, none⟩)] w (Rdx w S n c bs E X (gllOf (fb bs) s)) := by
  obtain ⟨W, hW, gW, ltW, d0, d1⟩ := boxR w S n c E
  have hEl := h.hE
  have hXl := h.hX
  have KB := box_keptX ltW (show w.heap.size ≠ E by omega) (show w.heap.size ≠ X by omega) d0 d1
  have HH := Lib.hid (h.grew gW)
  have GW := Lib.hid gW
  have G : Hid (FarX E X W W) := Lib.hid (Far.refl _ _)
  clear h gW
  unfold rv
  go_enter Tryd.func28, Tryd.ntmps28
  go_upto_region 1 with fail
  have H := Lib.hid (q_position HH.out 1 (by omega))
  unfold Rdx rv at H
  go_upto_region 2 with (go_at_call 40; refine H.out.mono ?_; rintro e w1 ⟨rfl, hh, gg⟩)
  have hh2 := hh
  have g2 := (G.out.trans gg)
  obtain ⟨s1, hs1⟩ : ∃ t : Rs, sPos (fb bs) 1 s = t := ⟨_, rfl⟩
  replace hh2 := Rd.as hs1 hh2
  have HS1 := Lib.hid hs1
  replace HH := Lib.hid hh2
  replace G := Lib.hid g2
  clear hs1 hh2 g2 H hh gg 
  clear d0 d1
  obtain ⟨d0, d1⟩ := KB _ G.out
  obtain ⟨r2, hr2⟩ : ∃ r2, clockOf (fb bs 5) = r2 := ⟨_, rfl⟩
  have H := Lib.hid (q_clock HH.out 5 (by omega) r2 hr2)
  unfold Rdt rv at H
  have HR2' := Lib.hid hr2
  clear hr2
  go_upto_region 3 with (go_at_call 38; refine H.out.mono ?_; rintro e w2 ⟨rfl, hh, gg⟩; have k5 := hh.cellX 5 _ rfl; have f5 := hh.frozenX 5; have k6 := hh.cellX 6 _ rfl; have f6 := hh.frozenX 6; have k7 := hh.cellX 7 _ rfl; have f7 := hh.frozenX 7; have k8 := hh.cellX 8 _ rfl; have f8 := hh.frozenX 8; have k2 := hh.cellX 2 _ rfl; have f2 := hh.frozenX 2)
  have hh2 := hh.time HR2'.out
  have g2 := farX_time (G.out.trans (farE_x gg)) (.int .i64 (r2.1.1 : Nat)) (.int .i64 (r2.1.2.1 : Nat)) (.int .i64 (r2.1.2.2.1 : Nat)) (.bool r2.1.2.2.2) (.bool (r2.2 == 0))
  obtain ⟨s2, hs2⟩ : ∃ t : Rs, sTime (fb bs) 5 s1 = t := ⟨_, rfl⟩
  replace hh2 := Rd.as hs2 hh2
  have HS2 := Lib.hid hs2
  replace HH := Lib.hid hh2
  replace G := Lib.hid g2
  clear hs2 hh2 g2 H hh gg k5 f5 k6 f6 k7 f7 k8 f8 k2 f2
  clear d0 d1
  obtain ⟨d0, d1⟩ := KB _ G.out
  obtain ⟨r3, hr3⟩ : ∃ r3, oneOf (fb bs 6) [65, 86] = r3 := ⟨_, rfl⟩
  have H := Lib.hid (q_active HH.out 6 (by omega) r3 hr3)
  unfold Rdt rv at H
  have HR3' := Lib.hid hr3
  clear hr3
  go_wp2_with (go_at_call 39; refine H.out.mono ?_; rintro e w3 ⟨rfl, hh, gg⟩; have k1 := hh.cellX 1 _ rfl; have f1 := hh.frozenX 1)
  have hh2 := hh.p_valid (r3.2 == 0 && r3.1 == 0)
  have g2 := farX_put (G.out.trans (farE_x gg)) 1 (.bool (r3.2 == 0 && r3.1 == 0))
  obtain ⟨s3, hs3⟩ : ∃ t : Rs, ({ s2.1 with valid := r3.2 == 0 && r3.1 == 0 }, s2.2 || badE r3.2) = t := ⟨_, rfl⟩
  replace hh2 := Rd.as hs3 hh2
  have HS3 := Lib.hid hs3
  replace HH := Lib.hid hh2
  replace G := Lib.hid g2
  clear hs3 hh2 g2 H hh gg k1 f1
  go_returns
  have hh := HH.out
  have q := HS1.out; clear HS1; subst q
  have q := HR2'.out; clear HR2'; subst q
  have q := HS2.out; clear HS2; subst q
  have q := HR3'.out; clear HR3'; subst q
  have q := HS3.out; clear HS3; subst q
  exact ⟨rfl, hh, (Far.of_grew GW.out).trans G.out⟩

set_option maxHeartbeats 4000000 in
set_option maxRecDepth 100000 in
theorem r_vtg (h : Rd w S n c bs E X s) (hn : 9 ≤ n) : Calls Tryd.prog 31 #[rv S n c E, .pointer (some ⟨X, 0, none⟩)] w (Rdx w S n c bs E X (vtgOf (fb bs) s)) := by
  obtain ⟨W, hW, gW, ltW, d0, d1⟩ := boxR w S n c E
  have hEl := h.hE
  have hXl := h.hX
  have KB := box_keptX ltW (show w.heap.size ≠ E by omega) (show w.heap.size ≠ X by omega) d0 d1
  have HH := Lib.hid (h.grew gW)
  have GW := Lib.hid gW
  have G : Hid (FarX E X W W) := Lib.hid (Far.refl _ _)
  clear h gW
  unfold rv
  go_enter Tryd.func31, Tryd.ntmps31
  go_upto_region 1 with fail
  obtain ⟨u1, hu1⟩ : ∃ u1, uOf (fb bs) 1 2 = u1 := ⟨_, rfl⟩
  obtain ⟨b1, hb1⟩ : ∃ b1, unsBad (fb bs 1) 2 = b1 := ⟨_, rfl⟩
  have H := Lib.hid (q_unsigned HH.out 1 (by omega) 2 (by decide) u1 hu1 b1 hb1)
  unfold Rdt rv at H
  have HU1' := Lib.hid hu1
  clear hu1
  have HB1' := Lib.hid hb1
  clear hb1
  go_upto_region 2 with (go_at_call 41; refine H.out.mono ?_; rintro e w1 ⟨rfl, hh, gg⟩; have k15 := hh.cellX 15 _ rfl; have f15 := hh.frozenX 15)
  have hh2 := hh.p_course u1
  have g2 := farX_put (G.out.trans (farE_x gg)) 15 (.int .i64 u1)
  obtain ⟨s1, hs1⟩ : ∃ t : Rs, ({ s.1 with course := u1 }, s.2 || b1) = t := ⟨_, rfl⟩
  replace hh2 := Rd.as hs1 hh2
  have HS1 := Lib.hid hs1
  replace HH := Lib.hid hh2
  replace G := Lib.hid g2
  clear hs1 hh2 g2 H hh gg k15 f15
  clear d0 d1
  obtain ⟨d0, d1⟩ := KB _ G.out
  obtain ⟨r2, hr2⟩ : ∃ r2, oneOf (fb bs 2) (nat ⟨#[84]⟩) = r2 := ⟨_, rfl⟩
  have H := Lib.hid (q_letter HH.out 2 (by omega) ⟨#[84]⟩ (by decide) r2 hr2)
  unfold Rdt rv at H
  have HR2' := Lib.hid hr2
  clear hr2
  go_upto_region 3 with (go_at_call 45; refine H.out.mono ?_; rintro e w2 ⟨rfl, hh, gg⟩)
  have hh2 := hh
  have g2 := (G.out.trans (farE_x gg))
  obtain ⟨s2, hs2⟩ : ∃ t : Rs, (s1.1, s1.2 || badE r2.2) = t := ⟨_, rfl⟩
  replace hh2 := Rd.as hs2 hh2
  have HS2 := Lib.hid hs2
  replace HH := Lib.hid hh2
  replace G := Lib.hid g2
  clear hs2 hh2 g2 H hh gg 
  clear d0 d1
  obtain ⟨d0, d1⟩ := KB _ G.out
  obtain ⟨u3, hu3⟩ : ∃ u3, uOf (fb bs) 5 3 = u3 := ⟨_, rfl⟩
  obtain ⟨b3, hb3⟩ : ∃ b3, unsBad (fb bs 5) 3 = b3 := ⟨_, rfl⟩
  have H := Lib.hid (q_unsigned HH.out 5 (by omega) 3 (by decide) u3 hu3 b3 hb3)
  unfold Rdt rv at H
  have HU3' := Lib.hid hu3
  clear hu3
  have HB3' := Lib.hid hb3
  clear hb3
  go_upto_region 4 with (go_at_call 41; refine H.out.mono ?_; rintro e w3 ⟨rfl, hh, gg⟩; have k14 := hh.cellX 14 _ rfl; have f14 := hh.frozenX 14)
  have hh2 := hh.p_speed u3
  have g2 := farX_put (G.out.trans (farE_x gg)) 14 (.int .i64 u3)
  obtain ⟨s3, hs3⟩ : ∃ t : Rs, ({ s2.1 with speed := u3 }, s2.2 || b3) = t := ⟨_, rfl⟩
  replace hh2 := Rd.as hs3 hh2
  have HS3 := Lib.hid hs3
  replace HH := Lib.hid hh2
  replace G := Lib.hid g2
  clear hs3 hh2 g2 H hh gg k14 f14
  clear d0 d1
  obtain ⟨d0, d1⟩ := KB _ G.out
  obtain ⟨r4, hr4⟩ : ∃ r4, oneOf (fb bs 6) (nat ⟨#[78]⟩) = r4 := ⟨_, rfl⟩
  have H := Lib.hid (q_letter HH.out 6 (by omega) ⟨#[78]⟩ (by decide) r4 hr4)
  unfold Rdt rv at H
  have HR4' := Lib.hid hr4
  clear hr4
  go_upto_region 5 with (go_at_call 45; refine H.out.mono ?_; rintro e w4 ⟨rfl, hh, gg⟩)
  have hh2 := hh
  have g2 := (G.out.trans (farE_x gg))
  obtain ⟨s4, hs4⟩ : ∃ t : Rs, (s3.1, s3.2 || badE r4.2) = t := ⟨_, rfl⟩
  replace hh2 := Rd.as hs4 hh2
  have HS4 := Lib.hid hs4
  replace HH := Lib.hid hh2
  replace G := Lib.hid g2
  clear hs4 hh2 g2 H hh gg 
  clear d0 d1
  obtain ⟨d0, d1⟩ := KB _ G.out
  have k1 := HH.out.cellX 1 _ rfl
  have f1 := HH.out.frozenX 1
  go_wp2_with fail
  have hh2 := HH.out.p_valid (true)
  have g2 := farX_put G.out 1 (.bool (true))
  obtain ⟨s5, hs5⟩ : ∃ t : Rs, ({ s4.1 with valid := true }, s4.2) = t := ⟨_, rfl⟩
  replace hh2 := Rd.as hs5 hh2
  have HS5 := Lib.hid hs5
  replace HH := Lib.hid hh2
  replace G := Lib.hid g2
  clear hs5 hh2 g2 k1 f1
  go_returns
  have hh := HH.out
  have q := HU1'.out; clear HU1'; subst q
  have q := HB1'.out; clear HB1'; subst q
  have q := HS1.out; clear HS1; subst q
  have q := HR2'.out; clear HR2'; subst q
  have q := HS2.out; clear HS2; subst q
  have q := HU3'.out; clear HU3'; subst q
  have q := HB3'.out; clear HB3'; subst q
  have q := HS3.out; clear HS3; subst q
  have q := HR4'.out; clear HR4'; subst q
  have q := HS4.out; clear HS4; subst q
  have q := HS5.out; clear HS5; subst q
  exact ⟨rfl, hh, (Far.of_grew GW.out).trans G.out⟩

set_option maxHeartbeats 4000000 in
set_option maxRecDepth 100000 in
theorem r_rmc (h : Rd w S n c bs E X s) (hn : 12 ≤ n) : Calls Tryd.prog 26 #[rv S n c E, .pointer (some ⟨X, 0, none⟩)] w (Rdx w S n c bs E X (rmcOf (fb bs) s)) := by
  obtain ⟨W, hW, gW, ltW, d0, d1⟩ := boxR w S n c E
  have hEl := h.hE
  have hXl := h.hX
  have KB := box_keptX ltW (show w.heap.size ≠ E by omega) (show w.heap.size ≠ X by omega) d0 d1
  have HH := Lib.hid (h.grew gW)
  have GW := Lib.hid gW
  have G : Hid (FarX E X W W) := Lib.hid (Far.refl _ _)
  clear h gW
  unfold rv
  go_enter Tryd.func26, Tryd.ntmps26
  go_upto_region 1 with fail
  obtain ⟨r1, hr1⟩ : ∃ r1, clockOf (fb bs 1) = r1 := ⟨_, rfl⟩
  have H := Lib.hid (q_clock HH.out 1 (by omega) r1 hr1)
  unfold Rdt rv at H
  have HR1' := Lib.hid hr1
  clear hr1
  go_upto_region 2 with (go_at_call 38; refine H.out.mono ?_; rintro e w1 ⟨rfl, hh, gg⟩; have k5 := hh.cellX 5 _ rfl; have f5 := hh.frozenX 5; have k6 := hh.cellX 6 _ rfl; have f6 := hh.frozenX 6; have k7 := hh.cellX 7 _ rfl; have f7 := hh.frozenX 7; have k8 := hh.cellX 8 _ rfl; have f8 := hh.frozenX 8; have k2 := hh.cellX 2 _ rfl; have f2 := hh.frozenX 2)
  have hh2 := hh.time HR1'.out
  have g2 := farX_time (G.out.trans (farE_x gg)) (.int .i64 (r1.1.1 : Nat)) (.int .i64 (r1.1.2.1 : Nat)) (.int .i64 (r1.1.2.2.1 : Nat)) (.bool r1.1.2.2.2) (.bool (r1.2 == 0))
  obtain ⟨s1, hs1⟩ : ∃ t : Rs, sTime (fb bs) 1 s = t := ⟨_, rfl⟩
  replace hh2 := Rd.as hs1 hh2
  have HS1 := Lib.hid hs1
  replace HH := Lib.hid hh2
  replace G := Lib.hid g2
  clear hs1 hh2 g2 H hh gg k5 f5 k6 f6 k7 f7 k8 f8 k2 f2
  clear d0 d1
  obtain ⟨d0, d1⟩ := KB _ G.out
  obtain ⟨r2, hr2⟩ : ∃ r2, oneOf (fb bs 2) [65, 86] = r2 := ⟨_, rfl⟩
  have H := Lib.hid (q_active HH.out 2 (by omega) r2 hr2)
  unfold Rdt rv at H
  have HR2' := Lib.hid hr2
  clear hr2
  go_upto_region 3 with (go_at_call 39; refine H.out.mono ?_; rintro e w2 ⟨rfl, hh, gg⟩; have k1 := hh.cellX 1 _ rfl; have f1 := hh.frozenX 1)
  have hh2 := hh.p_valid (r2.2 == 0 && r2.1 == 0)
  have g2 := farX_put (G.out.trans (farE_x gg)) 1 (.bool (r2.2 == 0 && r2.1 == 0))
  obtain ⟨s2, hs2⟩ : ∃ t : Rs, ({ s1.1 with valid := r2.2 == 0 && r2.1 == 0 }, s1.2 || badE r2.2) = t := ⟨_, rfl⟩
  replace hh2 := Rd.as hs2 hh2
  have HS2 := Lib.hid hs2
  replace HH := Lib.hid hh2
  replace G := Lib.hid g2
  clear hs2 hh2 g2 H hh gg k1 f1
  clear d0 d1
  obtain ⟨d0, d1⟩ := KB _ G.out
  have H := Lib.hid (q_position HH.out 3 (by omega))
  unfold Rdx rv at H
  go_upto_region 4 with (go_at_call 40; refine H.out.mono ?_; rintro e w3 ⟨rfl, hh, gg⟩)
  have hh2 := hh
  have g2 := (G.out.trans gg)
  obtain ⟨s3, hs3⟩ : ∃ t : Rs, sPos (fb bs) 3 s2 = t := ⟨_, rfl⟩
  replace hh2 := Rd.as hs3 hh2
  have HS3 := Lib.hid hs3
  replace HH := Lib.hid hh2
  replace G := Lib.hid g2
  clear hs3 hh2 g2 H hh gg 
  clear d0 d1
  obtain ⟨d0, d1⟩ := KB _ G.out
  obtain ⟨u4, hu4⟩ : ∃ u4, uOf (fb bs) 7 3 = u4 := ⟨_, rfl⟩
  obtain ⟨b4, hb4⟩ : ∃ b4, unsBad (fb bs 7) 3 = b4 := ⟨_, rfl⟩
  have H := Lib.hid (q_unsigned HH.out 7 (by omega) 3 (by decide) u4 hu4 b4 hb4)
  unfold Rdt rv at H
  have HU4' := Lib.hid hu4
  clear hu4
  have HB4' := Lib.hid hb4
  clear hb4
  go_upto_region 5 with (go_at_call 41; refine H.out.mono ?_; rintro e w4 ⟨rfl, hh, gg⟩; have k14 := hh.cellX 14 _ rfl; have f14 := hh.frozenX 14)
  have hh2 := hh.p_speed u4
  have g2 := farX_put (G.out.trans (farE_x gg)) 14 (.int .i64 u4)
  obtain ⟨s4, hs4⟩ : ∃ t : Rs, ({ s3.1 with speed := u4 }, s3.2 || b4) = t := ⟨_, rfl⟩
  replace hh2 := Rd.as hs4 hh2
  have HS4 := Lib.hid hs4
  replace HH := Lib.hid hh2
  replace G := Lib.hid g2
  clear hs4 hh2 g2 H hh gg k14 f14
  clear d0 d1
  obtain ⟨d0, d1⟩ := KB _ G.out
  obtain ⟨u5, hu5⟩ : ∃ u5, uOf (fb bs) 8 2 = u5 := ⟨_, rfl⟩
  obtain ⟨b5, hb5⟩ : ∃ b5, unsBad (fb bs 8) 2 = b5 := ⟨_, rfl⟩
  have H := Lib.hid (q_unsigned HH.out 8 (by omega) 2 (by decide) u5 hu5 b5 hb5)
  unfold Rdt rv at H
  have HU5' := Lib.hid hu5
  clear hu5
  have HB5' := Lib.hid hb5
  clear hb5
  go_upto_region 6 with (go_at_call 41; refine H.out.mono ?_; rintro e w5 ⟨rfl, hh, gg⟩; have k15 := hh.cellX 15 _ rfl; have f15 := hh.frozenX 15)
  have hh2 := hh.p_course u5
  have g2 := farX_put (G.out.trans (farE_x gg)) 15 (.int .i64 u5)
  obtain ⟨s5, hs5⟩ : ∃ t : Rs, ({ s4.1 with course := u5 }, s4.2 || b5) = t := ⟨_, rfl⟩
  replace hh2 := Rd.as hs5 hh2
  have HS5 := Lib.hid hs5
  replace HH := Lib.hid hh2
  replace G := Lib.hid g2
  clear hs5 hh2 g2 H hh gg k15 f15
  clear d0 d1
  obtain ⟨d0, d1⟩ := KB _ G.out
  obtain ⟨r6, hr6⟩ : ∃ r6, dateOf (fb bs 9) = r6 := ⟨_, rfl⟩
  have H := Lib.hid (q_date HH.out 9 (by omega) r6 hr6)
  unfold Rdt rv at H
  have HR6' := Lib.hid hr6
  clear hr6
  go_wp2_with (go_at_call 42; refine H.out.mono ?_; rintro e w6 ⟨rfl, hh, gg⟩; have k9 := hh.cellX 9 _ rfl; have f9 := hh.frozenX 9; have k10 := hh.cellX 10 _ rfl; have f10 := hh.frozenX 10; have k11 := hh.cellX 11 _ rfl; have f11 := hh.frozenX 11; have k3 := hh.cellX 3 _ rfl; have f3 := hh.frozenX 3)
  have hh2 := (((hh.p_day (r6.1.1 : Nat)).p_month (r6.1.2.1 : Nat)).p_year (r6.1.2.2 : Nat)).p_hasDate (r6.2 == 0)
  have g2 := farX_put (farX_put (farX_put (farX_put (G.out.trans (farE_x gg)) 9 (.int .i64 (r6.1.1 : Nat))) 10 (.int .i64 (r6.1.2.1 : Nat))) 11 (.int .i64 (r6.1.2.2 : Nat))) 3 (.bool (r6.2 == 0))
  obtain ⟨s6, hs6⟩ : ∃ t : Rs, ({ s5.1 with day := (r6.1.1 : Nat), month := (r6.1.2.1 : Nat), year := (r6.1.2.2 : Nat), hasDate := r6.2 == 0 }, s5.2 || badE r6.2) = t := ⟨_, rfl⟩
  replace hh2 := Rd.as hs6 hh2
  have HS6 := Lib.hid hs6
  replace HH := Lib.hid hh2
  replace G := Lib.hid g2
  clear hs6 hh2 g2 H hh gg k9 f9 k10 f10 k11 f11 k3 f3
  go_returns
  have hh := HH.out
  have q := HR1'.out; clear HR1'; subst q
  have q := HS1.out; clear HS1; subst q
  have q := HR2'.out; clear HR2'; subst q
  have q := HS2.out; clear HS2; subst q
  have q := HS3.out; clear HS3; subst q
  have q := HU4'.out; clear HU4'; subst q
  have q := HB4'.out; clear HB4'; subst q
  have q := HS4.out; clear HS4; subst q
  have q := HU5'.out; clear HU5'; subst q
  have q := HB5'.out; clear HB5'; subst q
  have q := HS5.out; clear HS5; subst q
  have q := HR6'.out; clear HR6'; subst q
  have q := HS6.out; clear HS6; subst q
  exact ⟨rfl, hh, (Far.of_grew GW.out).trans G.out⟩

end
end Go.Proofs.YtajgicliepenkaaDoor

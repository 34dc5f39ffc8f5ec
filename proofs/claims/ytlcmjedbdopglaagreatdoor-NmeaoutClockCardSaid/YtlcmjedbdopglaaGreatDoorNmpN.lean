/-
  The program's sentences: GLL, VTG, RMC.
  The program's sentences: GGA.
  The program's sentences: GSV.
  The program's sentences: GSA.
-/
import Derived.Test.YtlcmjedbdopglaaGreatDoorNmpH
import Derived.Deep.RegionHeld3
import Derived.Deep.DeepCutAuto
import Derived.LoopTactic
namespace Go.Proofs.YtlcmjedbdopglaaGreatDoor
open Go.RowKit
set_option linter.unusedVariables false

/- The program's sentences: GLL, VTG, RMC. -/
section
variable {w w' : World} {S n c E X : Nat} {bs : List ByteArray} {s : Rs}
set_option maxHeartbeats 4000000 in
set_option maxRecDepth 100000 in
theorem r_gll (h : Rd w S n c bs E X s) (hn : 7 ≤ n) : Calls Tryz.prog 59 #[rv S n c E, .pointer (some ⟨X, 0, none⟩)] w (Rdx w S n c bs E X (gllOf (fb bs) s)) := by
  obtain ⟨W, hW, gW, ltW, d0, d1⟩ := boxR w S n c E
  have hEl := h.hE
  have hXl := h.hX
  have KB := box_keptX ltW (show w.heap.size ≠ E by omega) (show w.heap.size ≠ X by omega) d0 d1
  have HH := Lib.hid (h.grew gW)
  have GW := Lib.hid gW
  have G : Hid (FarX E X W W) := Lib.hid (Far.refl _ _)
  clear h gW
  unfold rv
  go_enter Tryz.func59, Tryz.ntmps59
  go_upto_region 1 with fail
  have H := Lib.hid (q_position HH.out 1 (by omega))
  unfold Rdx rv at H
  go_upto_region 2 with (go_at_call 84; refine H.out.mono ?_; rintro e w1 ⟨rfl, hh, gg⟩)
  have hh2 := hh
  have g2 := (G.out.trans gg)
  obtain ⟨s1, hs1⟩ : ∃ t : Rs, sPos (fb bs) 1 s = t := ⟨_, rfl⟩
  replace hh2 := Rd.as hs1 hh2
  have HS1 := Lib.hid hs1
  replace HH := Lib.hid hh2
  replace G := Lib.hid g2
  clear hs1 hh2 g2 H hh gg 
  clear d0 d1
  obtain ⟨d0, d1⟩ := KB _ G.out
  obtain ⟨r2, hr2⟩ : ∃ r2, clockOf (fb bs 5) = r2 := ⟨_, rfl⟩
  have H := Lib.hid (q_clock HH.out 5 (by omega) r2 hr2)
  unfold Rdt rv at H
  have HR2' := Lib.hid hr2
  clear hr2
  go_upto_region 3 with (go_at_call 82; refine H.out.mono ?_; rintro e w2 ⟨rfl, hh, gg⟩; have k5 := hh.cellX 5 _ rfl; have f5 := hh.frozenX 5; have k6 := hh.cellX 6 _ rfl; have f6 := hh.frozenX 6; have k7 := hh.cellX 7 _ rfl; have f7 := hh.frozenX 7; have k8 := hh.cellX 8 _ rfl; have f8 := hh.frozenX 8; have k2 := hh.cellX 2 _ rfl; have f2 := hh.frozenX 2)
  have hh2 := hh.time HR2'.out
  have g2 := farX_time (G.out.trans (farE_x gg)) (.int .i64 (r2.1.1 : Nat)) (.int .i64 (r2.1.2.1 : Nat)) (.int .i64 (r2.1.2.2.1 : Nat)) (.bool r2.1.2.2.2) (.bool (r2.2 == 0))
  obtain ⟨s2, hs2⟩ : ∃ t : Rs, sTime (fb bs) 5 s1 = t := ⟨_, rfl⟩
  replace hh2 := Rd.as hs2 hh2
  have HS2 := Lib.hid hs2
  replace HH := Lib.hid hh2
  replace G := Lib.hid g2
  clear hs2 hh2 g2 H hh gg k5 f5 k6 f6 k7 f7 k8 f8 k2 f2
  clear d0 d1
  obtain ⟨d0, d1⟩ := KB _ G.out
  obtain ⟨r3, hr3⟩ : ∃ r3, oneOf (fb bs 6) [65, 86] = r3 := ⟨_, rfl⟩
  have H := Lib.hid (q_active HH.out 6 (by omega) r3 hr3)
  unfold Rdt rv at H
  have HR3' := Lib.hid hr3
  clear hr3
  go_wp2_with (go_at_call 83; refine H.out.mono ?_; rintro e w3 ⟨rfl, hh, gg⟩; have k1 := hh.cellX 1 _ rfl; have f1 := hh.frozenX 1)
  have hh2 := hh.p_valid (r3.2 == 0 && r3.1 == 0)
  have g2 := farX_put (G.out.trans (farE_x gg)) 1 (.bool (r3.2 == 0 && r3.1 == 0))
  obtain ⟨s3, hs3⟩ : ∃ t : Rs, ({ s2.1 with valid := r3.2 == 0 && r3.1 == 0 }, s2.2 || badE r3.2) = t := ⟨_, rfl⟩
  replace hh2 := Rd.as hs3 hh2
  have HS3 := Lib.hid hs3
  replace HH := Lib.hid hh2
  replace G := Lib.hid g2
  clear hs3 hh2 g2 H hh gg k1 f1
  go_returns
  have hh := HH.out
  have q := HS1.out; clear HS1; subst q
  have q := HR2'.out; clear HR2'; subst q
  have q := HS2.out; clear HS2; subst q
  have q := HR3'.out; clear HR3'; subst q
  have q := HS3.out; clear HS3; subst q
  exact ⟨rfl, hh, (Far.of_grew GW.out).trans G.out⟩

set_option maxHeartbeats 4000000 in
set_option maxRecDepth 100000 in
theorem r_vtg (h : Rd w S n c bs E X s) (hn : 9 ≤ n) : Calls Tryz.prog 62 #[rv S n c E, .pointer (some ⟨X, 0, none⟩)] w (Rdx w S n c bs E X (vtgOf (fb bs) s)) := by
  obtain ⟨W, hW, gW, ltW, d0, d1⟩ := boxR w S n c E
  have hEl := h.hE
  have hXl := h.hX
  have KB := box_keptX ltW (show w.heap.size ≠ E by omega) (show w.heap.size ≠ X by omega) d0 d1
  have HH := Lib.hid (h.grew gW)
  have GW := Lib.hid gW
  have G : Hid (FarX E X W W) := Lib.hid (Far.refl _ _)
  clear h gW
  unfold rv
  go_enter Tryz.func62, Tryz.ntmps62
  go_upto_region 1 with fail
  obtain ⟨u1, hu1⟩ : ∃ u1, uOf (fb bs) 1 2 = u1 := ⟨_, rfl⟩
  obtain ⟨b1, hb1⟩ : ∃ b1, unsBad (fb bs 1) 2 = b1 := ⟨_, rfl⟩
  have H := Lib.hid (q_unsigned HH.out 1 (by omega) 2 (by decide) u1 hu1 b1 hb1)
  unfold Rdt rv at H
  have HU1' := Lib.hid hu1
  clear hu1
  have HB1' := Lib.hid hb1
  clear hb1
  go_upto_region 2 with (go_at_call 85; refine H.out.mono ?_; rintro e w1 ⟨rfl, hh, gg⟩; have k15 := hh.cellX 15 _ rfl; have f15 := hh.frozenX 15)
  have hh2 := hh.p_course u1
  have g2 := farX_put (G.out.trans (farE_x gg)) 15 (.int .i64 u1)
  obtain ⟨s1, hs1⟩ : ∃ t : Rs, ({ s.1 with course := u1 }, s.2 || b1) = t := ⟨_, rfl⟩
  replace hh2 := Rd.as hs1 hh2
  have HS1 := Lib.hid hs1
  replace HH := Lib.hid hh2
  replace G := Lib.hid g2
  clear hs1 hh2 g2 H hh gg k15 f15
  clear d0 d1
  obtain ⟨d0, d1⟩ := KB _ G.out
  obtain ⟨r2, hr2⟩ : ∃ r2, oneOf (fb bs 2) (nat ⟨#[84]⟩) = r2 := ⟨_, rfl⟩
  have H := Lib.hid (q_letter HH.out 2 (by omega) ⟨#[84]⟩ (by decide) r2 hr2)
  unfold Rdt rv at H
  have HR2' := Lib.hid hr2
  clear hr2
  go_upto_region 3 with (go_at_call 89; refine H.out.mono ?_; rintro e w2 ⟨rfl, hh, gg⟩)
  have hh2 := hh
  have g2 := (G.out.trans (farE_x gg))
  obtain ⟨s2, hs2⟩ : ∃ t : Rs, (s1.1, s1.2 || badE r2.2) = t := ⟨_, rfl⟩
  replace hh2 := Rd.as hs2 hh2
  have HS2 := Lib.hid hs2
  replace HH := Lib.hid hh2
  replace G := Lib.hid g2
  clear hs2 hh2 g2 H hh gg 
  clear d0 d1
  obtain ⟨d0, d1⟩ := KB _ G.out
  obtain ⟨u3, hu3⟩ : ∃ u3, uOf (fb bs) 5 3 = u3 := ⟨_, rfl⟩
  obtain ⟨b3, hb3⟩ : ∃ b3, unsBad (fb bs 5) 3 = b3 := ⟨_, rfl⟩
  have H := Lib.hid (q_unsigned HH.out 5 (by omega) 3 (by decide) u3 hu3 b3 hb3)
  unfold Rdt rv at H
  have HU3' := Lib.hid hu3
  clear hu3
  have HB3' := Lib.hid hb3
  clear hb3
  go_upto_region 4 with (go_at_call 85; refine H.out.mono ?_; rintro e w3 ⟨rfl, hh, gg⟩; have k14 := hh.cellX 14 _ rfl; have f14 := hh.frozenX 14)
  have hh2 := hh.p_speed u3
  have g2 := farX_put (G.out.trans (farE_x gg)) 14 (.int .i64 u3)
  obtain ⟨s3, hs3⟩ : ∃ t : Rs, ({ s2.1 with speed := u3 }, s2.2 || b3) = t := ⟨_, rfl⟩
  replace hh2 := Rd.as hs3 hh2
  have HS3 := Lib.hid hs3
  replace HH := Lib.hid hh2
  replace G := Lib.hid g2
  clear hs3 hh2 g2 H hh gg k14 f14
  clear d0 d1
  obtain ⟨d0, d1⟩ := KB _ G.out
  obtain ⟨r4, hr4⟩ : ∃ r4, oneOf (fb bs 6) (nat ⟨#[78]⟩) = r4 := ⟨_, rfl⟩
  have H := Lib.hid (q_letter HH.out 6 (by omega) ⟨#[78]⟩ (by decide) r4 hr4)
  unfold Rdt rv at H
  have HR4' := Lib.hid hr4
  clear hr4
  go_upto_region 5 with (go_at_call 89; refine H.out.mono ?_; rintro e w4 ⟨rfl, hh, gg⟩)
  have hh2 := hh
  have g2 := (G.out.trans (farE_x gg))
  obtain ⟨s4, hs4⟩ : ∃ t : Rs, (s3.1, s3.2 || badE r4.2) = t := ⟨_, rfl⟩
  replace hh2 := Rd.as hs4 hh2
  have HS4 := Lib.hid hs4
  replace HH := Lib.hid hh2
  replace G := Lib.hid g2
  clear hs4 hh2 g2 H hh gg 
  clear d0 d1
  obtain ⟨d0, d1⟩ := KB _ G.out
  have k1 := HH.out.cellX 1 _ rfl
  have f1 := HH.out.frozenX 1
  go_wp2_with fail
  have hh2 := HH.out.p_valid (true)
  have g2 := farX_put G.out 1 (.bool (true))
  obtain ⟨s5, hs5⟩ : ∃ t : Rs, ({ s4.1 with valid := true }, s4.2) = t := ⟨_, rfl⟩
  replace hh2 := Rd.as hs5 hh2
  have HS5 := Lib.hid hs5
  replace HH := Lib.hid hh2
  replace G := Lib.hid g2
  clear hs5 hh2 g2 k1 f1
  go_returns
  have hh := HH.out
  have q := HU1'.out; clear HU1'; subst q
  have q := HB1'.out; clear HB1'; subst q
  have q := HS1.out; clear HS1; subst q
  have q := HR2'.out; clear HR2'; subst q
  have q := HS2.out; clear HS2; subst q
  have q := HU3'.out; clear HU3'; subst q
  have q := HB3'.out; clear HB3'; subst q
  have q := HS3.out; clear HS3; subst q
  have q := HR4'.out; clear HR4'; subst q
  have q := HS4.out; clear HS4; subst q
  have q := HS5.out; clear HS5; subst q
  exact ⟨rfl, hh, (Far.of_grew GW.out).trans G.out⟩

set_option maxHeartbeats 4000000 in
set_option maxRecDepth 100000 in
theorem r_rmc (h : Rd w S n c bs E X s) (hn : 12 ≤ n) : Calls Tryz.prog 57 #[rv S n c E, .pointer (some ⟨X, 0, none⟩)] w (Rdx w S n c bs E X (rmcOf (fb bs) s)) := by
  obtain ⟨W, hW, gW, ltW, d0, d1⟩ := boxR w S n c E
  have hEl := h.hE
  have hXl := h.hX
  have KB := box_keptX ltW (show w.heap.size ≠ E by omega) (show w.heap.size ≠ X by omega) d0 d1
  have HH := Lib.hid (h.grew gW)
  have GW := Lib.hid gW
  have G : Hid (FarX E X W W) := Lib.hid (Far.refl _ _)
  clear h gW
  unfold rv
  go_enter Tryz.func57, Tryz.ntmps57
  go_upto_region 1 with fail
  obtain ⟨r1, hr1⟩ : ∃ r1, clockOf (fb bs 1) = r1 := ⟨_, rfl⟩
  have H := Lib.hid (q_clock HH.out 1 (by omega) r1 hr1)
  unfold Rdt rv at H
  have HR1' := Lib.hid hr1
  clear hr1
  go_upto_region 2 with (go_at_call 82; refine H.out.mono ?_; rintro e w1 ⟨rfl, hh, gg⟩; have k5 := hh.cellX 5 _ rfl; have f5 := hh.frozenX 5; have k6 := hh.cellX 6 _ rfl; have f6 := hh.frozenX 6; have k7 := hh.cellX 7 _ rfl; have f7 := hh.frozenX 7; have k8 := hh.cellX 8 _ rfl; have f8 := hh.frozenX 8; have k2 := hh.cellX 2 _ rfl; have f2 := hh.frozenX 2)
  have hh2 := hh.time HR1'.out
  have g2 := farX_time (G.out.trans (farE_x gg)) (.int .i64 (r1.1.1 : Nat)) (.int .i64 (r1.1.2.1 : Nat)) (.int .i64 (r1.1.2.2.1 : Nat)) (.bool r1.1.2.2.2) (.bool (r1.2 == 0))
  obtain ⟨s1, hs1⟩ : ∃ t : Rs, sTime (fb bs) 1 s = t := ⟨_, rfl⟩
  replace hh2 := Rd.as hs1 hh2
  have HS1 := Lib.hid hs1
  replace HH := Lib.hid hh2
  replace G := Lib.hid g2
  clear hs1 hh2 g2 H hh gg k5 f5 k6 f6 k7 f7 k8 f8 k2 f2
  clear d0 d1
  obtain ⟨d0, d1⟩ := KB _ G.out
  obtain ⟨r2, hr2⟩ : ∃ r2, oneOf (fb bs 2) [65, 86] = r2 := ⟨_, rfl⟩
  have H := Lib.hid (q_active HH.out 2 (by omega) r2 hr2)
  unfold Rdt rv at H
  have HR2' := Lib.hid hr2
  clear hr2
  go_upto_region 3 with (go_at_call 83; refine H.out.mono ?_; rintro e w2 ⟨rfl, hh, gg⟩; have k1 := hh.cellX 1 _ rfl; have f1 := hh.frozenX 1)
  have hh2 := hh.p_valid (r2.2 == 0 && r2.1 == 0)
  have g2 := farX_put (G.out.trans (farE_x gg)) 1 (.bool (r2.2 == 0 && r2.1 == 0))
  obtain ⟨s2, hs2⟩ : ∃ t : Rs, ({ s1.1 with valid := r2.2 == 0 && r2.1 == 0 }, s1.2 || badE r2.2) = t := ⟨_, rfl⟩
  replace hh2 := Rd.as hs2 hh2
  have HS2 := Lib.hid hs2
  replace HH := Lib.hid hh2
  replace G := Lib.hid g2
  clear hs2 hh2 g2 H hh gg k1 f1
  clear d0 d1
  obtain ⟨d0, d1⟩ := KB _ G.out
  have H := Lib.hid (q_position HH.out 3 (by omega))
  unfold Rdx rv at H
  go_upto_region 4 with (go_at_call 84; refine H.out.mono ?_; rintro e w3 ⟨rfl, hh, gg⟩)
  have hh2 := hh
  have g2 := (G.out.trans gg)
  obtain ⟨s3, hs3⟩ : ∃ t : Rs, sPos (fb bs) 3 s2 = t := ⟨_, rfl⟩
  replace hh2 := Rd.as hs3 hh2
  have HS3 := Lib.hid hs3
  replace HH := Lib.hid hh2
  replace G := Lib.hid g2
  clear hs3 hh2 g2 H hh gg 
  clear d0 d1
  obtain ⟨d0, d1⟩ := KB _ G.out
  obtain ⟨u4, hu4⟩ : ∃ u4, uOf (fb bs) 7 3 = u4 := ⟨_, rfl⟩
  obtain ⟨b4, hb4⟩ : ∃ b4, unsBad (fb bs 7) 3 = b4 := ⟨_, rfl⟩
  have H := Lib.hid (q_unsigned HH.out 7 (by omega) 3 (by decide) u4 hu4 b4 hb4)
  unfold Rdt rv at H
  have HU4' := Lib.hid hu4
  clear hu4
  have HB4' := Lib.hid hb4
  clear hb4
  go_upto_region 5 with (go_at_call 85; refine H.out.mono ?_; rintro e w4 ⟨rfl, hh, gg⟩; have k14 := hh.cellX 14 _ rfl; have f14 := hh.frozenX 14)
  have hh2 := hh.p_speed u4
  have g2 := farX_put (G.out.trans (farE_x gg)) 14 (.int .i64 u4)
  obtain ⟨s4, hs4⟩ : ∃ t : Rs, ({ s3.1 with speed := u4 }, s3.2 || b4) = t := ⟨_, rfl⟩
  replace hh2 := Rd.as hs4 hh2
  have HS4 := Lib.hid hs4
  replace HH := Lib.hid hh2
  replace G := Lib.hid g2
  clear hs4 hh2 g2 H hh gg k14 f14
  clear d0 d1
  obtain ⟨d0, d1⟩ := KB _ G.out
  obtain ⟨u5, hu5⟩ : ∃ u5, uOf (fb bs) 8 2 = u5 := ⟨_, rfl⟩
  obtain ⟨b5, hb5⟩ : ∃ b5, unsBad (fb bs 8) 2 = b5 := ⟨_, rfl⟩
  have H := Lib.hid (q_unsigned HH.out 8 (by omega) 2 (by decide) u5 hu5 b5 hb5)
  unfold Rdt rv at H
  have HU5' := Lib.hid hu5
  clear hu5
  have HB5' := Lib.hid hb5
  clear hb5
  go_upto_region 6 with (go_at_call 85; refine H.out.mono ?_; rintro e w5 ⟨rfl, hh, gg⟩; have k15 := hh.cellX 15 _ rfl; have f15 := hh.frozenX 15)
  have hh2 := hh.p_course u5
  have g2 := farX_put (G.out.trans (farE_x gg)) 15 (.int .i64 u5)
  obtain ⟨s5, hs5⟩ : ∃ t : Rs, ({ s4.1 with course := u5 }, s4.2 || b5) = t := ⟨_, rfl⟩
  replace hh2 := Rd.as hs5 hh2
  have HS5 := Lib.hid hs5
  replace HH := Lib.hid hh2
  replace G := Lib.hid g2
  clear hs5 hh2 g2 H hh gg k15 f15
  clear d0 d1
  obtain ⟨d0, d1⟩ := KB _ G.out
  obtain ⟨r6, hr6⟩ : ∃ r6, dateOf (fb bs 9) = r6 := ⟨_, rfl⟩
  have H := Lib.hid (q_date HH.out 9 (by omega) r6 hr6)
  unfold Rdt rv at H
  have HR6' := Lib.hid hr6
  clear hr6
  go_wp2_with (go_at_call 86; refine H.out.mono ?_; rintro e w6 ⟨rfl, hh, gg⟩; have k9 := hh.cellX 9 _ rfl; have f9 := hh.frozenX 9; have k10 := hh.cellX 10 _ rfl; have f10 := hh.frozenX 10; have k11 := hh.cellX 11 _ rfl; have f11 := hh.frozenX 11; have k3 := hh.cellX 3 _ rfl; have f3 := hh.frozenX 3)
  have hh2 := (((hh.p_day (r6.1.1 : Nat)).p_month (r6.1.2.1 : Nat)).p_year (r6.1.2.2 : Nat)).p_hasDate (r6.2 == 0)
  have g2 := farX_put (farX_put (farX_put (farX_put (G.out.trans (farE_x gg)) 9 (.int .i64 (r6.1.1 : Nat))) 10 (.int .i64 (r6.1.2.1 : Nat))) 11 (.int .i64 (r6.1.2.2 : Nat))) 3 (.bool (r6.2 == 0))
  obtain ⟨s6, hs6⟩ : ∃ t : Rs, ({ s5.1 with day := (r6.1.1 : Nat), month := (r6.1.2.1 : Nat), year := (r6.1.2.2 : Nat), hasDate := r6.2 == 0 }, s5.2 || badE r6.2) = t := ⟨_, rfl⟩
  replace hh2 := Rd.as hs6 hh2
  have HS6 := Lib.hid hs6
  replace HH := Lib.hid hh2
  replace G := Lib.hid g2
  clear hs6 hh2 g2 H hh gg k9 f9 k10 f10 k11 f11 k3 f3
  go_returns
  have hh := HH.out
  have q := HR1'.out; clear HR1'; subst q
  have q := HS1.out; clear HS1; subst q
  have q := HR2'.out; clear HR2'; subst q
  have q := HS2.out; clear HS2; subst q
  have q := HS3.out; clear HS3; subst q
  have q := HU4'.out; clear HU4'; subst q
  have q := HB4'.out; clear HB4'; subst q
  have q := HS4.out; clear HS4; subst q
  have q := HU5'.out; clear HU5'; subst q
  have q := HB5'.out; clear HB5'; subst q
  have q := HS5.out; clear HS5; subst q
  have q := HR6'.out; clear HR6'; subst q
  have q := HS6.out; clear HS6; subst q
  exact ⟨rfl, hh, (Far.of_grew GW.out).trans G.out⟩

end
/- The program's sentences: GGA. -/
section
variable {w w' : World} {S n c E X : Nat} {bs : List ByteArray} {s : Rs}
set_option maxHeartbeats 4000000 in
set_option maxRecDepth 100000 in
theorem r_gga (h : Rd w S n c bs E X s) (hn : 15 ≤ n) : Calls Tryz.prog 58 #[rv S n c E, .pointer (some ⟨X, 0, none⟩)] w (Rdx w S n c bs E X (ggaOf (fb bs) s)) := by
  obtain ⟨W, hW, gW, ltW, d0, d1⟩ := boxR w S n c E
  have hEl := h.hE
  have hXl := h.hX
  have KB := box_keptX ltW (show w.heap.size ≠ E by omega) (show w.heap.size ≠ X by omega) d0 d1
  have HH := Lib.hid (h.grew gW)
  have GW := Lib.hid gW
  have G : Hid (FarX E X W W) := Lib.hid (Far.refl _ _)
  clear h gW
  unfold rv
  go_enter Tryz.func58, Tryz.ntmps58
  go_upto_region 1 with fail
  obtain ⟨r1, hr1⟩ : ∃ r1, clockOf (fb bs 1) = r1 := ⟨_, rfl⟩
  have H := Lib.hid (q_clock HH.out 1 (by omega) r1 hr1)
  unfold Rdt rv at H
  have HR1' := Lib.hid hr1
  clear hr1
  go_upto_region 2 with (go_at_call 82; refine H.out.mono ?_; rintro e w1 ⟨rfl, hh, gg⟩; have k5 := hh.cellX 5 _ rfl; have f5 := hh.frozenX 5; have k6 := hh.cellX 6 _ rfl; have f6 := hh.frozenX 6; have k7 := hh.cellX 7 _ rfl; have f7 := hh.frozenX 7; have k8 := hh.cellX 8 _ rfl; have f8 := hh.frozenX 8; have k2 := hh.cellX 2 _ rfl; have f2 := hh.frozenX 2)
  have hh2 := hh.time HR1'.out
  have g2 := farX_time (G.out.trans (farE_x gg)) (.int .i64 (r1.1.1 : Nat)) (.int .i64 (r1.1.2.1 : Nat)) (.int .i64 (r1.1.2.2.1 : Nat)) (.bool r1.1.2.2.2) (.bool (r1.2 == 0))
  obtain ⟨s1, hs1⟩ : ∃ t : Rs, sTime (fb bs) 1 s = t := ⟨_, rfl⟩
  replace hh2 := Rd.as hs1 hh2
  have HS1 := Lib.hid hs1
  replace HH := Lib.hid hh2
  replace G := Lib.hid g2
  clear hs1 hh2 g2 H hh gg k5 f5 k6 f6 k7 f7 k8 f8 k2 f2
  clear d0 d1
  obtain ⟨d0, d1⟩ := KB _ G.out
  have H := Lib.hid (q_position HH.out 2 (by omega))
  unfold Rdx rv at H
  go_upto_region 3 with (go_at_call 84; refine H.out.mono ?_; rintro e w2 ⟨rfl, hh, gg⟩)
  have hh2 := hh
  have g2 := (G.out.trans gg)
  obtain ⟨s2, hs2⟩ : ∃ t : Rs, sPos (fb bs) 2 s1 = t := ⟨_, rfl⟩
  replace hh2 := Rd.as hs2 hh2
  have HS2 := Lib.hid hs2
  replace HH := Lib.hid hh2
  replace G := Lib.hid g2
  clear hs2 hh2 g2 H hh gg 
  clear d0 d1
  obtain ⟨d0, d1⟩ := KB _ G.out
  obtain ⟨r3, hr3⟩ : ∃ r3, intAns (fb bs 6) 0 8 = r3 := ⟨_, rfl⟩
  have H := Lib.hid (q_number HH.out 6 (by omega) 0 8 (by decide) (by decide) r3 hr3)
  unfold Rdt rv at H
  have HR3' := Lib.hid hr3
  clear hr3
  go_upto_region 4 with (go_at_call 87; refine H.out.mono ?_; rintro e w3 ⟨rfl, hh, gg⟩; have k16 := hh.cellX 16 _ rfl; have f16 := hh.frozenX 16)
  have hh2 := hh.p_quality r3.1
  have g2 := farX_put (G.out.trans (farE_x gg)) 16 (.int .i64 r3.1)
  obtain ⟨s3, hs3⟩ : ∃ t : Rs, ({ s2.1 with quality := r3.1 }, s2.2 || badE r3.2) = t := ⟨_, rfl⟩
  replace hh2 := Rd.as hs3 hh2
  have HS3 := Lib.hid hs3
  replace HH := Lib.hid hh2
  replace G := Lib.hid g2
  clear hs3 hh2 g2 H hh gg k16 f16
  clear d0 d1
  obtain ⟨d0, d1⟩ := KB _ G.out
  have k1 := HH.out.cellX 1 (.bool s3.1.valid) rfl
  have f1 := HH.out.frozenX 1
  have k16 := HH.out.cellX 16 (.int .i64 s3.1.quality) rfl
  have f16 := HH.out.frozenX 16
  go_upto_region 5 with fail
  have hh2 := HH.out.p_valid (decide (0 < s3.1.quality))
  have g2 := farX_put G.out 1 (.bool (decide (0 < s3.1.quality)))
  obtain ⟨s4, hs4⟩ : ∃ t : Rs, ({ s3.1 with valid := decide (0 < s3.1.quality) }, s3.2) = t := ⟨_, rfl⟩
  replace hh2 := Rd.as hs4 hh2
  have HS4 := Lib.hid hs4
  replace HH := Lib.hid hh2
  replace G := Lib.hid g2
  clear hs4 hh2 g2 k1 f1 k16 f16
  clear d0 d1
  obtain ⟨d0, d1⟩ := KB _ G.out
  obtain ⟨r5, hr5⟩ : ∃ r5, intAns (fb bs 7) 0 99 = r5 := ⟨_, rfl⟩
  have H := Lib.hid (q_number HH.out 7 (by omega) 0 99 (by decide) (by decide) r5 hr5)
  unfold Rdt rv at H
  have HR5' := Lib.hid hr5
  clear hr5
  go_upto_region 6 with (go_at_call 87; refine H.out.mono ?_; rintro e w5 ⟨rfl, hh, gg⟩; have k17 := hh.cellX 17 _ rfl; have f17 := hh.frozenX 17)
  have hh2 := hh.p_sats r5.1
  have g2 := farX_put (G.out.trans (farE_x gg)) 17 (.int .i64 r5.1)
  obtain ⟨s5, hs5⟩ : ∃ t : Rs, ({ s4.1 with sats := r5.1 }, s4.2 || badE r5.2) = t := ⟨_, rfl⟩
  replace hh2 := Rd.as hs5 hh2
  have HS5 := Lib.hid hs5
  replace HH := Lib.hid hh2
  replace G := Lib.hid g2
  clear hs5 hh2 g2 H hh gg k17 f17
  clear d0 d1
  obtain ⟨d0, d1⟩ := KB _ G.out
  obtain ⟨u6, hu6⟩ : ∃ u6, uOf (fb bs) 8 2 = u6 := ⟨_, rfl⟩
  obtain ⟨b6, hb6⟩ : ∃ b6, unsBad (fb bs 8) 2 = b6 := ⟨_, rfl⟩
  have H := Lib.hid (q_unsigned HH.out 8 (by omega) 2 (by decide) u6 hu6 b6 hb6)
  unfold Rdt rv at H
  have HU6' := Lib.hid hu6
  clear hu6
  have HB6' := Lib.hid hb6
  clear hb6
  go_upto_region 7 with (go_at_call 85; refine H.out.mono ?_; rintro e w6 ⟨rfl, hh, gg⟩; have k21 := hh.cellX 21 _ rfl; have f21 := hh.frozenX 21)
  have hh2 := hh.p_hdop u6
  have g2 := farX_put (G.out.trans (farE_x gg)) 21 (.int .i64 u6)
  obtain ⟨s6, hs6⟩ : ∃ t : Rs, ({ s5.1 with hdop := u6 }, s5.2 || b6) = t := ⟨_, rfl⟩
  replace hh2 := Rd.as hs6 hh2
  have HS6 := Lib.hid hs6
  replace HH := Lib.hid hh2
  replace G := Lib.hid g2
  clear hs6 hh2 g2 H hh gg k21 f21
  clear d0 d1
  obtain ⟨d0, d1⟩ := KB _ G.out
  obtain ⟨r7, hr7⟩ : ∃ r7, fixedOf (fb bs 9) 3 = r7 := ⟨_, rfl⟩
  have H := Lib.hid (q_fixed HH.out 9 (by omega) 3 (by decide) r7 hr7)
  unfold Rdt rv at H
  have HR7' := Lib.hid hr7
  clear hr7
  go_upto_region 8 with (go_at_call 88; refine H.out.mono ?_; rintro e w7 ⟨rfl, hh, gg⟩; have k19 := hh.cellX 19 _ rfl; have f19 := hh.frozenX 19)
  have hh2 := hh.p_height r7.1
  have g2 := farX_put (G.out.trans (farE_x gg)) 19 (.int .i64 r7.1)
  obtain ⟨s7, hs7⟩ : ∃ t : Rs, ({ s6.1 with height := r7.1 }, s6.2 || badE r7.2) = t := ⟨_, rfl⟩
  replace hh2 := Rd.as hs7 hh2
  have HS7 := Lib.hid hs7
  replace HH := Lib.hid hh2
  replace G := Lib.hid g2
  clear hs7 hh2 g2 H hh gg k19 f19
  clear d0 d1
  obtain ⟨d0, d1⟩ := KB _ G.out
  obtain ⟨r8, hr8⟩ : ∃ r8, oneOf (fb bs 10) (nat ⟨#[77]⟩) = r8 := ⟨_, rfl⟩
  have H := Lib.hid (q_letter HH.out 10 (by omega) ⟨#[77]⟩ (by decide) r8 hr8)
  unfold Rdt rv at H
  have HR8' := Lib.hid hr8
  clear hr8
  go_wp2_with (go_at_call 89; refine H.out.mono ?_; rintro e w8 ⟨rfl, hh, gg⟩)
  have hh2 := hh
  have g2 := (G.out.trans (farE_x gg))
  obtain ⟨s8, hs8⟩ : ∃ t : Rs, (s7.1, s7.2 || badE r8.2) = t := ⟨_, rfl⟩
  replace hh2 := Rd.as hs8 hh2
  have HS8 := Lib.hid hs8
  replace HH := Lib.hid hh2
  replace G := Lib.hid g2
  clear hs8 hh2 g2 H hh gg 
  go_returns
  have hh := HH.out
  have q := HR1'.out; clear HR1'; subst q
  have q := HS1.out; clear HS1; subst q
  have q := HS2.out; clear HS2; subst q
  have q := HR3'.out; clear HR3'; subst q
  have q := HS3.out; clear HS3; subst q
  have q := HS4.out; clear HS4; subst q
  have q := HR5'.out; clear HR5'; subst q
  have q := HS5.out; clear HS5; subst q
  have q := HU6'.out; clear HU6'; subst q
  have q := HB6'.out; clear HB6'; subst q
  have q := HS6.out; clear HS6; subst q
  have q := HR7'.out; clear HR7'; subst q
  have q := HS7.out; clear HS7; subst q
  have q := HR8'.out; clear HR8'; subst q
  have q := HS8.out; clear HS8; subst q
  exact ⟨rfl, hh, (Far.of_grew GW.out).trans G.out⟩

end
/- The program's sentences: GSV. -/
section
variable {w w' : World} {S n c E X : Nat} {bs : List ByteArray} {s : Rs}
set_option maxHeartbeats 4000000 in
set_option maxRecDepth 100000 in
theorem r_gsv (h : Rd w S n c bs E X s) (hn : 4 ≤ n) : Calls Tryz.prog 63 #[rv S n c E, .pointer (some ⟨X, 0, none⟩)] w (Rdx w S n c bs E X (gsvOf (fb bs) (n - 1) s)) := by
  obtain ⟨W, hW, gW, ltW, d0, d1⟩ := boxR w S n c E
  have hEl := h.hE
  have hXl := h.hX
  have KB := box_keptX ltW (show w.heap.size ≠ E by omega) (show w.heap.size ≠ X by omega) d0 d1
  have HH := Lib.hid (h.grew gW)
  have GW := Lib.hid gW
  have G : Hid (FarX E X W W) := Lib.hid (Far.refl _ _)
  clear h gW
  unfold rv
  go_enter Tryz.func63, Tryz.ntmps63
  obtain ⟨m, hm⟩ : ∃ m, n - 1 = m := ⟨_, rfl⟩
  have hnm := HH.out.many
  have hx : IntKind.i64.wrap ((n : Int) - 1) = (m : Nat) := by rw [IntWalk.i64_in _ (by omega)]; omega
  rw [hm]
  have HM := Lib.hid hm
  clear hm hnm
  go_upto_region 2 with fail
  have HA := fun b => Lib.hid (r_ask HH.out b)
  unfold Rdt rv at HA
  obtain ⟨q, hq⟩ : ∃ q, m % 4 = q := ⟨_, rfl⟩
  have e4 : (m : Int).tmod 4 = (q : Nat) := by rw [← hq]; rfl
  have e5 : (m : Int) % 4 = (q : Nat) := by omega
  have hq4 : q < 4 := by omega
  obtain ⟨s1, hs1⟩ : ∃ t : Rs, (s.1, s.2 || !(q == 3 || q == 0)) = t := ⟨_, rfl⟩
  have HQ := Lib.hid hq
  clear hq
  go_cut [18] (fun z wx => Rd wx S n c bs E X s1 ∧ FarE E W wx)
  case first =>
    rcases (show q = 0 ∨ q = 1 ∨ q = 2 ∨ q = 3 by omega) with rfl | rfl | rfl | rfl
    all_goals
      have HS1 := Lib.hid hs1
      clear hs1 hq4
      go_wp2_with (first | (go_at_call 36; refine (HA _).out.mono ?_; rintro e w1 ⟨rfl, hh, gg⟩))
      go_meet
      exact ⟨Rd.as HS1.out hh, gg⟩
  case rest =>
  obtain ⟨hh, gg⟩ := hcut
  have HS1 := Lib.hid hs1
  replace HH := Lib.hid hh
  replace G := Lib.hid (farE_x gg : FarX E X W wc)
  clear hh gg HA hs1 e4 e5 hq4 hx d0 d1
  obtain ⟨d0, d1⟩ := KB _ G.out
  go_upto_region 3 with fail
  obtain ⟨r2, hr2⟩ : ∃ r2, intAns (fb bs 1) 1 9 = r2 := ⟨_, rfl⟩
  have H := Lib.hid (q_number HH.out 1 (by omega) 1 9 (by decide) (by decide) r2 hr2)
  unfold Rdt rv at H
  have HR2' := Lib.hid hr2
  clear hr2
  go_upto_region 4 with (go_at_call 87; refine H.out.mono ?_; rintro e w2 ⟨rfl, hh, gg⟩; have k23 := hh.cellX 23 _ rfl; have f23 := hh.frozenX 23)
  have hh2 := hh.p_parts r2.1
  have g2 := farX_put (G.out.trans (farE_x gg)) 23 (.int .i64 r2.1)
  obtain ⟨s2, hs2⟩ : ∃ t : Rs, ({ s1.1 with parts := r2.1 }, s1.2 || badE r2.2) = t := ⟨_, rfl⟩
  replace hh2 := Rd.as hs2 hh2
  have HS2 := Lib.hid hs2
  replace HH := Lib.hid hh2
  replace G := Lib.hid g2
  clear hs2 hh2 g2 H hh gg k23 f23
  clear d0 d1
  obtain ⟨d0, d1⟩ := KB _ G.out
  have hr := int_in2 (fb bs 1) 1 9 (by decide) (by decide)
  rw [HR2'.out] at hr
  have k23 := HH.out.cellX 23 (.int .i64 s2.1.parts) rfl
  have hp : s2.1.parts = r2.1 := by rw [← HS2.out]
  rw [hp] at k23
  generalize w2.setCell ⟨X, 23, none⟩ (.int .i64 r2.1) = V at *
  obtain ⟨r3, hr3⟩ : ∃ r, intAns (fb bs 2) 1 r2.1 = r := ⟨_, rfl⟩
  have H := Lib.hid (q_number (HH.out.grew (Grew.refl V).drew) 2 (by omega) 1 r2.1 (by decide) (by omega) r3 hr3)
  unfold Rdt rv at H
  have HR3 := Lib.hid hr3
  have hXV := HH.out.hX
  have hBV : w.heap.size < V.heap.size := Nat.lt_of_lt_of_le ltW G.out.size
  have hEX := HH.out.EX
  have KS : ∀ w', FarE E V w' → (w'.cell? ⟨w.heap.size, 0, none⟩ = some (.slice (some ⟨S, 0, none⟩) n c) ∧ w'.cell? ⟨w.heap.size, 1, none⟩ = some (.func (.func 21) #[] #[.pointer (some ⟨E, 0, none⟩)])) ∧ w'.cell? ⟨X, 23, none⟩ = some (.int .i64 r2.1) := fun w' g =>
    ⟨KB w' (G.out.trans (farE_x g)), (g.cell (p := ⟨X, 23, none⟩) hXV (fun e => hEX e.symm)).trans k23⟩
  have KS2 : ∀ w' v, FarE E V w' → ((w'.setCell ⟨X, 24, none⟩ v).cell? ⟨w.heap.size, 0, none⟩ = some (.slice (some ⟨S, 0, none⟩) n c) ∧ (w'.setCell ⟨X, 24, none⟩ v).cell? ⟨w.heap.size, 1, none⟩ = some (.func (.func 21) #[] #[.pointer (some ⟨E, 0, none⟩)])) ∧ (w'.setCell ⟨X, 24, none⟩ v).cell? ⟨X, 23, none⟩ = some (.int .i64 r2.1) := fun w' v g =>
    ⟨KB _ (farX_put (G.out.trans (farE_x g)) 24 v), (World.cell?_setCell_other _ _ _ _ (fun e => by injection e; omega)).trans (KS w' g).2⟩
  have GD := HH.out.drew
  obtain ⟨s3, hs3⟩ : ∃ t : Rs, ({ s2.1 with part := r3.1 }, s2.2 || badE r3.2) = t := ⟨_, rfl⟩
  clear hr hp k23 hr3 d0 d1
  go_cut [37] (fun z wx => Rd wx S n c bs E X s3 ∧ FarX E X V wx)
  case first =>
    have HS3 := Lib.hid hs3
    clear hs3
    go_region_held3 (fun w' => (w'.cell? ⟨w.heap.size, 0, none⟩ = some (.slice (some ⟨S, 0, none⟩) n c) ∧ w'.cell? ⟨w.heap.size, 1, none⟩ = some (.func (.func 21) #[] #[.pointer (some ⟨E, 0, none⟩)])) ∧ w'.cell? ⟨X, 23, none⟩ = some (.int .i64 r2.1)) (first | exact KS _ GD | exact KS2 _ _ GD)
      (first | (go_at_call 87; refine H.out.mono ?_; rintro e w3 ⟨rfl, hh, gg⟩; replace GD := GD.trans gg; have k24 := hh.cellX 24 _ rfl; have f24 := hh.frozenX 24))
    all_goals
      go_wp2_with fail
      go_meet
      exact ⟨Rd.as HS3.out (hh.p_part r3.1), farX_put (farE_x GD) 24 _⟩
  case rest =>
  obtain ⟨hh, gg⟩ := hcut
  have HS3 := Lib.hid hs3
  replace HH := Lib.hid hh
  replace G := Lib.hid (G.out.trans gg)
  clear hh gg hs3 KS KS2 H GD hXV hBV hEX
  obtain ⟨d0, d1⟩ := KB _ G.out
  go_upto_region 5 with fail
  obtain ⟨r4, hr4⟩ : ∃ r4, intAns (fb bs 3) 0 99 = r4 := ⟨_, rfl⟩
  have H := Lib.hid (q_number HH.out 3 (by omega) 0 99 (by decide) (by decide) r4 hr4)
  unfold Rdt rv at H
  have HR4' := Lib.hid hr4
  clear hr4
  go_upto_region 6 with (go_at_call 87; refine H.out.mono ?_; rintro e w4 ⟨rfl, hh, gg⟩; have k17 := hh.cellX 17 _ rfl; have f17 := hh.frozenX 17)
  have hh2 := hh.p_sats r4.1
  have g2 := farX_put (G.out.trans (farE_x gg)) 17 (.int .i64 r4.1)
  obtain ⟨s4, hs4⟩ : ∃ t : Rs, ({ s3.1 with sats := r4.1 }, s3.2 || badE r4.2) = t := ⟨_, rfl⟩
  replace hh2 := Rd.as hs4 hh2
  have HS4 := Lib.hid hs4
  replace HH := Lib.hid hh2
  replace G := Lib.hid g2
  clear hs4 hh2 g2 H hh gg k17 f17
  clear d0 d1
  obtain ⟨d0, d1⟩ := KB _ G.out
  have k1 := HH.out.cellX 1 (.bool s4.1.valid) rfl
  have f1 := HH.out.frozenX 1
  go_wp2_with fail
  have hh2 := HH.out.p_valid (true)
  have g2 := farX_put G.out 1 (.bool (true))
  obtain ⟨s5, hs5⟩ : ∃ t : Rs, ({ s4.1 with valid := true }, s4.2) = t := ⟨_, rfl⟩
  replace hh2 := Rd.as hs5 hh2
  have HS5 := Lib.hid hs5
  replace HH := Lib.hid hh2
  replace G := Lib.hid g2
  clear hs5 hh2 g2 k1 f1
  go_returns
  have hh := HH.out
  have q := HM.out; clear HM; subst q
  have q := HQ.out; clear HQ; subst q
  have q := HS1.out; clear HS1; subst q
  have q := HR2'.out; clear HR2'; subst q
  have q := HS2.out; clear HS2; subst q
  have q := HR3.out; clear HR3; subst q
  have q := HS3.out; clear HS3; subst q
  have q := HR4'.out; clear HR4'; subst q
  have q := HS4.out; clear HS4; subst q
  have q := HS5.out; clear HS5; subst q
  exact ⟨rfl, hh, (Far.of_grew GW.out).trans G.out⟩

end
/- The program's sentences: GSA. -/
section
variable {w w' : World} {S n c E X : Nat} {bs : List ByteArray} {s : Rs}
set_option maxHeartbeats 4000000 in
set_option maxRecDepth 100000 in
theorem r_gsa (h : Rd w S n c bs E X s) (hn : 18 ≤ n) (h0 : s.1.sats = 0) : Calls Tryz.prog 60 #[rv S n c E, .pointer (some ⟨X, 0, none⟩)] w (Rdx w S n c bs E X (gsaOf (fb bs) s)) := by
  obtain ⟨W, hW, gW, ltW, d0, d1⟩ := boxR w S n c E
  have hEl := h.hE
  have hXl := h.hX
  have KB := box_keptX ltW (show w.heap.size ≠ E by omega) (show w.heap.size ≠ X by omega) d0 d1
  have HH := Lib.hid (h.grew gW)
  have GW := Lib.hid gW
  have G : Hid (FarX E X W W) := Lib.hid (Far.refl _ _)
  clear h gW
  unfold rv
  go_enter Tryz.func60, Tryz.ntmps60
  go_upto_region 1 with fail
  obtain ⟨r1, hr1⟩ : ∃ r1, oneOf (fb bs 1) (nat ⟨#[65, 77]⟩) = r1 := ⟨_, rfl⟩
  have H := Lib.hid (q_letter HH.out 1 (by omega) ⟨#[65, 77]⟩ (by decide) r1 hr1)
  unfold Rdt rv at H
  have HR1' := Lib.hid hr1
  clear hr1
  go_upto_region 2 with (go_at_call 89; refine H.out.mono ?_; rintro e w1 ⟨rfl, hh, gg⟩)
  have hh2 := hh
  have g2 := (G.out.trans (farE_x gg))
  obtain ⟨s1, hs1⟩ : ∃ t : Rs, (s.1, s.2 || badE r1.2) = t := ⟨_, rfl⟩
  replace hh2 := Rd.as hs1 hh2
  have HS1 := Lib.hid hs1
  replace HH := Lib.hid hh2
  replace G := Lib.hid g2
  clear hs1 hh2 g2 H hh gg 
  clear d0 d1
  obtain ⟨d0, d1⟩ := KB _ G.out
  obtain ⟨r2, hr2⟩ : ∃ r2, intAns (fb bs 2) 1 3 = r2 := ⟨_, rfl⟩
  have H := Lib.hid (q_number HH.out 2 (by omega) 1 3 (by decide) (by decide) r2 hr2)
  unfold Rdt rv at H
  have HR2' := Lib.hid hr2
  clear hr2
  go_upto_region 3 with (go_at_call 87; refine H.out.mono ?_; rintro e w2 ⟨rfl, hh, gg⟩; have k18 := hh.cellX 18 _ rfl; have f18 := hh.frozenX 18)
  have hh2 := hh.p_mode r2.1
  have g2 := farX_put (G.out.trans (farE_x gg)) 18 (.int .i64 r2.1)
  obtain ⟨s2, hs2⟩ : ∃ t : Rs, ({ s1.1 with mode := r2.1 }, s1.2 || badE r2.2) = t := ⟨_, rfl⟩
  replace hh2 := Rd.as hs2 hh2
  have HS2 := Lib.hid hs2
  replace HH := Lib.hid hh2
  replace G := Lib.hid g2
  clear hs2 hh2 g2 H hh gg k18 f18
  clear d0 d1
  obtain ⟨d0, d1⟩ := KB _ G.out
  have k1 := HH.out.cellX 1 (.bool s2.1.valid) rfl
  have f1 := HH.out.frozenX 1
  have k18 := HH.out.cellX 18 (.int .i64 s2.1.mode) rfl
  have f18 := HH.out.frozenX 18
  go_upto_region 4 with fail
  have hh2 := HH.out.p_valid (decide (1 < s2.1.mode))
  have g2 := farX_put G.out 1 (.bool (decide (1 < s2.1.mode)))
  obtain ⟨s3, hs3⟩ : ∃ t : Rs, ({ s2.1 with valid := decide (1 < s2.1.mode) }, s2.2) = t := ⟨_, rfl⟩
  replace hh2 := Rd.as hs3 hh2
  have HS3 := Lib.hid hs3
  replace HH := Lib.hid hh2
  replace G := Lib.hid g2
  clear hs3 hh2 g2 k1 f1 k18 f18
  clear d0 d1
  obtain ⟨d0, d1⟩ := KB _ G.out
  have hs0 : Hid (s3.1.sats = 0) := by show _ = _; rw [← HS3.out, ← HS2.out, ← HS1.out]; exact h0
  have HSB := fun k => Lib.hid (sats_in (fb bs) s3 hs0.out k)
  clear h0 hs0
  generalize (w2.setCell ⟨X, 18, none⟩ (.int .i64 r2.1)).setCell ⟨X, 1, none⟩ (.bool (decide (1 < s2.1.mode))) = V at *
  have GV : Hid (FarX E X V V) := Lib.hid (Far.refl _ _)
  clear d0 d1
  go_wp2_with fail
  go_loopw [4, 5, 6] (fun a p q wr => ∃ k : Nat, k ≤ 12 ∧ a = .int .i64 ((3 + k : Nat) : Int) ∧ Hid (Rd wr S n c bs E X (satsTo (fb bs) k s3)) ∧ Hid (FarX E X V wr)) (fun a _ _ _ => 15 - (intOf a).toNat)
  case atStart => exact ⟨0, by omega, rfl, HH, GV⟩
  case round =>
  obtain ⟨k, hk, rfl, HR, GR⟩ := hrel
  obtain ⟨d0, d1⟩ := KB _ (G.out.trans GR.out)
  by_cases hlt : k < 12
  · have c1 : ((3 + k : Nat) : Int) ≤ 14 := by omega
    have m1 : IntKind.i64.wrap (((3 + k : Nat) : Int) + 1) = ((3 + (k + 1) : Nat) : Int) := by rw [IntWalk.i64_in _ (by omega)]; omega
    obtain ⟨r, hr⟩ : ∃ r, intAns (fb bs (k + 3)) 1 999 = r := ⟨_, rfl⟩
    have H := Lib.hid (q_number HR.out (k + 3) (by omega) 1 999 (by decide) (by decide) r hr)
    unfold Rdt rv at H
    rw [Nat.add_comm k 3] at H hr
    have hb := (HSB k).out
    have HST := Lib.hid (show satsTo (fb bs) (k + 1) s3 = ({ (satsTo (fb bs) k s3).1 with sats := if (r.2 == 0) = true then (satsTo (fb bs) k s3).1.sats + 1 else (satsTo (fb bs) k s3).1.sats }, (satsTo (fb bs) k s3).2 || badE r.2) by
      rw [satsTo]
      unfold nHas nBad
      rw [show k + 3 = 3 + k by omega, hr])
    obtain ⟨t, ht⟩ : ∃ t : Rs, satsTo (fb bs) k s3 = t := ⟨_, rfl⟩
    rw [ht] at H hb HST HR
    have m2 : IntKind.i64.wrap (t.1.sats + 1) = t.1.sats + 1 := IntWalk.i64_in _ (by omega)
    obtain ⟨b, hb2⟩ : ∃ b, (r.2 == 0) = b := ⟨_, rfl⟩
    rw [hb2] at H HST
    clear hb hr ht HR hb2 HSB
    cases b
    · go_wp2_with (first | (go_at_call 87; refine H.out.mono ?_; rintro e w4 ⟨rfl, hh, gg⟩))
      go_roundw
      case rel => exact ⟨k + 1, by omega, by first | rfl | simp, Lib.hid (Rd.as (by rw [HST.out]; rfl) hh), Lib.hid (GR.out.trans (farE_x gg))⟩
      case measure => simp [intOf]; omega
    · go_wp2_with (first | (go_at_call 87; refine H.out.mono ?_; rintro e w4 ⟨rfl, hh, gg⟩; have k17 := hh.cellX 17 (.int .i64 t.1.sats) rfl; have f17 := hh.frozenX 17))
      go_roundw
      case rel => exact ⟨k + 1, by omega, by first | rfl | simp, Lib.hid (Rd.as (by rw [HST.out]; rfl) (hh.p_sats (t.1.sats + 1))), Lib.hid (farX_put (GR.out.trans (farE_x gg)) 17 _)⟩
      case measure => simp [intOf]; omega
  obtain rfl : k = 12 := by omega
  obtain ⟨s4, hs4⟩ : ∃ t : Rs, satsTo (fb bs) 12 s3 = t := ⟨_, rfl⟩
  have hh := HR.out
  rw [hs4] at hh
  have HS4 := Lib.hid hs4
  replace HH := Lib.hid hh
  replace G := Lib.hid (G.out.trans GR.out)
  clear hs4 hh HR GR HSB
  go_upto_region 10 with fail
  obtain ⟨u5, hu5⟩ : ∃ u5, uOf (fb bs) 15 2 = u5 := ⟨_, rfl⟩
  obtain ⟨b5, hb5⟩ : ∃ b5, unsBad (fb bs 15) 2 = b5 := ⟨_, rfl⟩
  have H := Lib.hid (q_unsigned HH.out 15 (by omega) 2 (by decide) u5 hu5 b5 hb5)
  unfold Rdt rv at H
  have HU5' := Lib.hid hu5
  clear hu5
  have HB5' := Lib.hid hb5
  clear hb5
  go_upto_region 11 with (go_at_call 85; refine H.out.mono ?_; rintro e w5 ⟨rfl, hh, gg⟩; have k20 := hh.cellX 20 _ rfl; have f20 := hh.frozenX 20)
  have hh2 := hh.p_pdop u5
  have g2 := farX_put (G.out.trans (farE_x gg)) 20 (.int .i64 u5)
  obtain ⟨s5, hs5⟩ : ∃ t : Rs, ({ s4.1 with pdop := u5 }, s4.2 || b5) = t := ⟨_, rfl⟩
  replace hh2 := Rd.as hs5 hh2
  have HS5 := Lib.hid hs5
  replace HH := Lib.hid hh2
  replace G := Lib.hid g2
  clear hs5 hh2 g2 H hh gg k20 f20
  clear d0 d1
  obtain ⟨d0, d1⟩ := KB _ G.out
  obtain ⟨u6, hu6⟩ : ∃ u6, uOf (fb bs) 16 2 = u6 := ⟨_, rfl⟩
  obtain ⟨b6, hb6⟩ : ∃ b6, unsBad (fb bs 16) 2 = b6 := ⟨_, rfl⟩
  have H := Lib.hid (q_unsigned HH.out 16 (by omega) 2 (by decide) u6 hu6 b6 hb6)
  unfold Rdt rv at H
  have HU6' := Lib.hid hu6
  clear hu6
  have HB6' := Lib.hid hb6
  clear hb6
  go_upto_region 12 with (go_at_call 85; refine H.out.mono ?_; rintro e w6 ⟨rfl, hh, gg⟩; have k21 := hh.cellX 21 _ rfl; have f21 := hh.frozenX 21)
  have hh2 := hh.p_hdop u6
  have g2 := farX_put (G.out.trans (farE_x gg)) 21 (.int .i64 u6)
  obtain ⟨s6, hs6⟩ : ∃ t : Rs, ({ s5.1 with hdop := u6 }, s5.2 || b6) = t := ⟨_, rfl⟩
  replace hh2 := Rd.as hs6 hh2
  have HS6 := Lib.hid hs6
  replace HH := Lib.hid hh2
  replace G := Lib.hid g2
  clear hs6 hh2 g2 H hh gg k21 f21
  clear d0 d1
  obtain ⟨d0, d1⟩ := KB _ G.out
  obtain ⟨u7, hu7⟩ : ∃ u7, uOf (fb bs) 17 2 = u7 := ⟨_, rfl⟩
  obtain ⟨b7, hb7⟩ : ∃ b7, unsBad (fb bs 17) 2 = b7 := ⟨_, rfl⟩
  have H := Lib.hid (q_unsigned HH.out 17 (by omega) 2 (by decide) u7 hu7 b7 hb7)
  unfold Rdt rv at H
  have HU7' := Lib.hid hu7
  clear hu7
  have HB7' := Lib.hid hb7
  clear hb7
  go_wp2_with (go_at_call 85; refine H.out.mono ?_; rintro e w7 ⟨rfl, hh, gg⟩; have k22 := hh.cellX 22 _ rfl; have f22 := hh.frozenX 22)
  have hh2 := hh.p_vdop u7
  have g2 := farX_put (G.out.trans (farE_x gg)) 22 (.int .i64 u7)
  obtain ⟨s7, hs7⟩ : ∃ t : Rs, ({ s6.1 with vdop := u7 }, s6.2 || b7) = t := ⟨_, rfl⟩
  replace hh2 := Rd.as hs7 hh2
  have HS7 := Lib.hid hs7
  replace HH := Lib.hid hh2
  replace G := Lib.hid g2
  clear hs7 hh2 g2 H hh gg k22 f22
  go_returns
  have hh := HH.out
  have q := HR1'.out; clear HR1'; subst q
  have q := HS1.out; clear HS1; subst q
  have q := HR2'.out; clear HR2'; subst q
  have q := HS2.out; clear HS2; subst q
  have q := HS3.out; clear HS3; subst q
  have q := HS4.out; clear HS4; subst q
  have q := HU5'.out; clear HU5'; subst q
  have q := HB5'.out; clear HB5'; subst q
  have q := HS5.out; clear HS5; subst q
  have q := HU6'.out; clear HU6'; subst q
  have q := HB6'.out; clear HB6'; subst q
  have q := HS6.out; clear HS6; subst q
  have q := HU7'.out; clear HU7'; subst q
  have q := HB7'.out; clear HB7'; subst q
  have q := HS7.out; clear HS7; subst q
  exact ⟨rfl, hh, (Far.of_grew GW.out).trans G.out⟩

end
end Go.Proofs.YtlcmjedbdopglaaGreatDoor

/-
  The program's sentences: GGA.
-/
import Derived.Test.YtajgicliepenkaaDoorNmpH
namespace Go.Proofs.YtajgicliepenkaaDoor
open Go.RowKit
set_option linter.unusedVariables false

section
variable {w w' : World} {S n c E X : Nat} {bs : List ByteArray} {s : Rs}
set_option maxHeartbeats 4000000 in
set_option maxRecDepth 100000 in
theorem r_gga (h : Rd w S n c bs E X s) (hn : 15 ≤ n) : Calls Tryd.prog 27 #[rv S n c E, .pointer (some ⟨X, 0, none⟩)] w (Rdx w S n c bs E X (ggaOf (fb bs) s)) := by
  obtain ⟨W, hW, gW, ltW, d0, d1⟩ := boxR w S n c E
  have hEl := h.hE
  have hXl := h.hX
  have KB := box_keptX ltW (show w.heap.size ≠ E by omega) (show w.heap.size ≠ X by omega) d0 d1
  have HH := Lib.hid (h.grew gW)
  have GW := Lib.hid gW
  have G : Hid (FarX E X W W) := Lib.hid (Far.refl _ _)
  clear h gW
  unfold rv
  go_enter Tryd.func27, Tryd.ntmps27
  go_upto_region 1 with fail
  obtain ⟨r1, hr1⟩ : ∃ r1, clockOf (fb bs 1) = r1 := ⟨_, rfl⟩
  have H := Lib.hid (q_clock HH.out 1 (by omega) r1 hr1)
  unfold Rdt rv at H
  have HR1' := Lib.hid hr1
  clear hr1
  go_upto_region 2 with (go_at_call 38; refine H.out.mono ?_; rintro e w1 ⟨rfl, hh, gg⟩; have k5 := hh.cellX 5 _ rfl; have f5 := hh.frozenX 5; have k6 := hh.cellX 6 _ rfl; have f6 := hh.frozenX 6; have k7 := hh.cellX 7 _ rfl; have f7 := hh.frozenX 7; have k8 := hh.cellX 8 _ rfl; have f8 := hh.frozenX 8; have k2 := hh.cellX 2 _ rfl; have f2 := hh.frozenX 2)
  have hh2 := hh.time HR1'.out
  have g2 := farX_time (G.out.trans (farE_x gg)) (.int .i64 (r1.1.1 : Nat)) (.int .i64 (r1.1.2.1 : Nat)) (.int .i64 (r1.1.2.2.1 : Nat)) (.bool r1.1.2.2.2) (.bool (r1.2 == 0))
  obtain ⟨s1, hs1⟩ : ∃ t : Rs, sTime (fb bs) 1 s = t := ⟨_, rfl⟩
  replace hh2 := Rd.as hs1 hh2
  have HS1 := Lib.hid hs1
  replace HH := Lib.hid hh2
  replace G := Lib.hid g2
  clear hs1 hh2 g2 H hh gg k5 f5 k6 f6 k7 f7 k8 f8 k2 f2
  clear d0 d1
  obtain ⟨d0, d1⟩ := KB _ G.out
  have H := Lib.hid (q_position HH.out 2 (by omega))
  unfold Rdx rv at H
  go_upto_region 3 with (go_at_call 40; refine H.out.mono ?_; rintro e w2 ⟨rfl, hh, gg⟩)
  have hh2 := hh
  have g2 := (G.out.trans gg)
  obtain ⟨s2, hs2⟩ : ∃ t : Rs, sPos (fb bs) 2 s1 = t := ⟨_, rfl⟩
  replace hh2 := Rd.as hs2 hh2
  have HS2 := Lib.hid hs2
  replace HH := Lib.hid hh2
  replace G := Lib.hid g2
  clear hs2 hh2 g2 H hh gg 
  clear d0 d1
  obtain ⟨d0, d1⟩ := KB _ G.out
  obtain ⟨r3, hr3⟩ : ∃ r3, intAns (fb bs 6) 0 8 = r3 := ⟨_, rfl⟩
  have H := Lib.hid (q_number HH.out 6 (by omega) 0 8 (by decide) (by decide) r3 hr3)
  unfold Rdt rv at H
  have HR3' := Lib.hid hr3
  clear hr3
  go_upto_region 4 with (go_at_call 43; refine H.out.mono ?_; rintro e w3 ⟨rfl, hh, gg⟩; have k16 := hh.cellX 16 _ rfl; have f16 := hh.frozenX 16)
  have hh2 := hh.p_quality r3.1
  have g2 := farX_put (G.out.trans (farE_x gg)) 16 (.int .i64 r3.1)
  obtain ⟨s3, hs3⟩ : ∃ t : Rs, ({ s2.1 with quality := r3.1 }, s2.2 || badE r3.2) = t := ⟨_, rfl⟩
  replace hh2 := Rd.as hs3 hh2
  have HS3 := Lib.hid hs3
  replace HH := Lib.hid hh2
  replace G := Lib.hid g2
  clear hs3 hh2 g2 H hh gg k16 f16
  clear d0 d1
  obtain ⟨d0, d1⟩ := KB _ G.out
  have k1 := HH.out.cellX 1 (.bool s3.1.valid) rfl
  have f1 := HH.out.frozenX 1
  have k16 := HH.out.cellX 16 (.int .i64 s3.1.quality) rfl
  have f16 := HH.out.frozenX 16
  go_upto_region 5 with fail
  have hh2 := HH.out.p_valid (decide (0 < s3.1.quality))
  have g2 := farX_put G.out 1 (.bool (decide (0 < s3.1.quality)))
  obtain ⟨s4, hs4⟩ : ∃ t : Rs, ({ s3.1 with valid := decide (0 < s3.1.quality) }, s3.2) = t := ⟨_, rfl⟩
  replace hh2 := Rd.as hs4 hh2
  have HS4 := Lib.hid hs4
  replace HH := Lib.hid hh2
  replace G := Lib.hid g2
  clear hs4 hh2 g2 k1 f1 k16 f16
  clear d0 d1
  obtain ⟨d0, d1⟩ := KB _ G.out
  obtain ⟨r5, hr5⟩ : ∃ r5, intAns (fb bs 7) 0 99 = r5 := ⟨_, rfl⟩
  have H := Lib.hid (q_number HH.out 7 (by omega) 0 99 (by decide) (by decide) r5 hr5)
  unfold Rdt rv at H
  have HR5' := Lib.hid hr5
  clear hr5
  go_upto_region 6 with (go_at_call 43; refine H.out.mono ?_; rintro e w5 ⟨rfl, hh, gg⟩; have k17 := hh.cellX 17 _ rfl; have f17 := hh.frozenX 17)
  have hh2 := hh.p_sats r5.1
  have g2 := farX_put (G.out.trans (farE_x gg)) 17 (.int .i64 r5.1)
  obtain ⟨s5, hs5⟩ : ∃ t : Rs, ({ s4.1 with sats := r5.1 }, s4.2 || badE r5.2) = t := ⟨_, rfl⟩
  replace hh2 := Rd.as hs5 hh2
  have HS5 := Lib.hid hs5
  replace HH := Lib.hid hh2
  replace G := Lib.hid g2
  clear hs5 hh2 g2 H hh gg k17 f17
  clear d0 d1
  obtain ⟨d0, d1⟩ := KB _ G.out
  obtain ⟨u6, hu6⟩ : ∃ u6, uOf (fb bs) 8 2 = u6 := ⟨_, rfl⟩
  obtain ⟨b6, hb6⟩ : ∃ b6, unsBad (fb bs 8) 2 = b6 := ⟨_, rfl⟩
  have H := Lib.hid (q_unsigned HH.out 8 (by omega) 2 (by decide) u6 hu6 b6 hb6)
  unfold Rdt rv at H
  have HU6' := Lib.hid hu6
  clear hu6
  have HB6' := Lib.hid hb6
  clear hb6
  go_upto_region 7 with (go_at_call 41; refine H.out.mono ?_; rintro e w6 ⟨rfl, hh, gg⟩; have k21 := hh.cellX 21 _ rfl; have f21 := hh.frozenX 21)
  have hh2 := hh.p_hdop u6
  have g2 := farX_put (G.out.trans (farE_x gg)) 21 (.int .i64 u6)
  obtain ⟨s6, hs6⟩ : ∃ t : Rs, ({ s5.1 with hdop := u6 }, s5.2 || b6) = t := ⟨_, rfl⟩
  replace hh2 := Rd.as hs6 hh2
  have HS6 := Lib.hid hs6
  replace HH := Lib.hid hh2
  replace G := Lib.hid g2
  clear hs6 hh2 g2 H hh gg k21 f21
  clear d0 d1
  obtain ⟨d0, d1⟩ := KB _ G.out
  obtain ⟨r7, hr7⟩ : ∃ r7, fixedOf (fb bs 9) 3 = r7 := ⟨_, rfl⟩
  have H := Lib.hid (q_fixed HH.out 9 (by omega) 3 (by decide) r7 hr7)
  unfold Rdt rv at H
  have HR7' := Lib.hid hr7
  clear hr7
  go_upto_region 8 with (go_at_call 44; refine H.out.mono ?_; rintro e w7 ⟨rfl, hh, gg⟩; have k19 := hh.cellX 19 _ rfl; have f19 := hh.frozenX 19)
  have hh2 := hh.p_height r7.1
  have g2 := farX_put (G.out.trans (farE_x gg)) 19 (.int .i64 r7.1)
  obtain ⟨s7, hs7⟩ : ∃ t : Rs, ({ s6.1 with height := r7.1 }, s6.2 || badE r7.2) = t := ⟨_, rfl⟩
  replace hh2 := Rd.as hs7 hh2
  have HS7 := Lib.hid hs7
  replace HH := Lib.hid hh2
  replace G := Lib.hid g2
  clear hs7 hh2 g2 H hh gg k19 f19
  clear d0 d1
  obtain ⟨d0, d1⟩ := KB _ G.out
  obtain ⟨r8, hr8⟩ : ∃ r8, oneOf (fb bs 10) (nat ⟨#[77]⟩) = r8 := ⟨_, rfl⟩
  have H := Lib.hid (q_letter HH.out 10 (by omega) ⟨#[77]⟩ (by decide) r8 hr8)
  unfold Rdt rv at H
  have HR8' := Lib.hid hr8
  clear hr8
  go_wp2_with (go_at_call 45; refine H.out.mono ?_; rintro e w8 ⟨rfl, hh, gg⟩)
  have hh2 := hh
  have g2 := (G.out.trans (farE_x gg))
  obtain ⟨s8, hs8⟩ : ∃ t : Rs, (s7.1, s7.2 || badE r8.2) = t := ⟨_, rfl⟩
  replace hh2 := Rd.as hs8 hh2
  have HS8 := Lib.hid hs8
  replace HH := Lib.hid hh2
  replace G := Lib.hid g2
  clear hs8 hh2 g2 H hh gg 
  go_returns
  have hh := HH.out
  have q := HR1'.out; clear HR1'; subst q
  have q := HS1.out; clear HS1; subst q
  have q := HS2.out; clear HS2; subst q
  have q := HR3'.out; clear HR3'; subst q
  have q := HS3.out; clear HS3; subst q
  have q := HS4.out; clear HS4; subst q
  have q := HR5'.out; clear HR5'; subst q
  have q := HS5.out; clear HS5; subst q
  have q := HU6'.out; clear HU6'; subst q
  have q := HB6'.out; clear HB6'; subst q
  have q := HS6.out; clear HS6; subst q
  have q := HR7'.out; clear HR7'; subst q
  have q := HS7.out; clear HS7; subst q
  have q := HR8'.out; clear HR8'; subst q
  have q := HS8.out; clear HS8; subst q
  exact ⟨rfl, hh, (Far.of_grew GW.out).trans G.out⟩

end
end Go.Proofs.YtajgicliepenkaaDoor

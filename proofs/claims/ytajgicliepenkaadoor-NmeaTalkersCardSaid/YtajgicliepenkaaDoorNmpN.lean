/-
  The program's sentences: GSA.
-/
import Derived.Test.YtajgicliepenkaaDoorNmpH
import Derived.LoopTactic
namespace Go.Proofs.YtajgicliepenkaaDoor
open Go.RowKit
set_option linter.unusedVariables false

section
variable {w w' : World} {S n c E X : Nat} {bs : List ByteArray} {s : Rs}
set_option maxHeartbeats 4000000 in
set_option maxRecDepth 100000 in
theorem r_gsa (h : Rd w S n c bs E X s) (hn : 18 ≤ n) (h0 : s.1.sats = 0) : Calls Tryd.prog 29 #[rv S n c E, .pointer (some ⟨X, 0, none⟩)] w (Rdx w S n c bs E X (gsaOf (fb bs) s)) := by
  obtain ⟨W, hW, gW, ltW, d0, d1⟩ := boxR w S n c E
  have hEl := h.hE
  have hXl := h.hX
  have KB := box_keptX ltW (show w.heap.size ≠ E by omega) (show w.heap.size ≠ X by omega) d0 d1
  have HH := Lib.hid (h.grew gW)
  have GW := Lib.hid gW
  have G : Hid (FarX E X W W) := Lib.hid (Far.refl _ _)
  clear h gW
  unfold rv
  go_enter Tryd.func29, Tryd.ntmps29
  go_upto_region 1 with fail
  obtain ⟨r1, hr1⟩ : ∃ r1, oneOf (fb bs 1) (nat ⟨#[65, 77]⟩) = r1 := ⟨_, rfl⟩
  have H := Lib.hid (q_letter HH.out 1 (by omega) ⟨#[65, 77]⟩ (by decide) r1 hr1)
  unfold Rdt rv at H
  have HR1' := Lib.hid hr1
  clear hr1
  go_upto_region 2 with (go_at_call 45; refine H.out.mono ?_; rintro e w1 ⟨rfl, hh, gg⟩)
  have hh2 := hh
  have g2 := (G.out.trans (farE_x gg))
  obtain ⟨s1, hs1⟩ : ∃ t : Rs, (s.1, s.2 || badE r1.2) = t := ⟨_, rfl⟩
  replace hh2 := Rd.as hs1 hh2
  have HS1 := Lib.hid hs1
  replace HH := Lib.hid hh2
  replace G := Lib.hid g2
  clear hs1 hh2 g2 H hh gg 
  clear d0 d1
  obtain ⟨d0, d1⟩ := KB _ G.out
  obtain ⟨r2, hr2⟩ : ∃ r2, intAns (fb bs 2) 1 3 = r2 := ⟨_, rfl⟩
  have H := Lib.hid (q_number HH.out 2 (by omega) 1 3 (by decide) (by decide) r2 hr2)
  unfold Rdt rv at H
  have HR2' := Lib.hid hr2
  clear hr2
  go_upto_region 3 with (go_at_call 43; refine H.out.mono ?_; rintro e w2 ⟨rfl, hh, gg⟩; have k18 := hh.cellX 18 _ rfl; have f18 := hh.frozenX 18)
  have hh2 := hh.p_mode r2.1
  have g2 := farX_put (G.out.trans (farE_x gg)) 18 (.int .i64 r2.1)
  obtain ⟨s2, hs2⟩ : ∃ t : Rs, ({ s1.1 with mode := r2.1 }, s1.2 || badE r2.2) = t := ⟨_, rfl⟩
  replace hh2 := Rd.as hs2 hh2
  have HS2 := Lib.hid hs2
  replace HH := Lib.hid hh2
  replace G := Lib.hid g2
  clear hs2 hh2 g2 H hh gg k18 f18
  clear d0 d1
  obtain ⟨d0, d1⟩ := KB _ G.out
  have k1 := HH.out.cellX 1 (.bool s2.1.valid) rfl
  have f1 := HH.out.frozenX 1
  have k18 := HH.out.cellX 18 (.int .i64 s2.1.mode) rfl
  have f18 := HH.out.frozenX 18
  go_upto_region 4 with fail
  have hh2 := HH.out.p_valid (decide (1 < s2.1.mode))
  have g2 := farX_put G.out 1 (.bool (decide (1 < s2.1.mode)))
  obtain ⟨s3, hs3⟩ : ∃ t : Rs, ({ s2.1 with valid := decide (1 < s2.1.mode) }, s2.2) = t := ⟨_, rfl⟩
  replace hh2 := Rd.as hs3 hh2
  have HS3 := Lib.hid hs3
  replace HH := Lib.hid hh2
  replace G := Lib.hid g2
  clear hs3 hh2 g2 k1 f1 k18 f18
  clear d0 d1
  obtain ⟨d0, d1⟩ := KB _ G.out
  have hs0 : Hid (s3.1.sats = 0) := by show _ = _; rw [← HS3.out, ← HS2.out, ← HS1.out]; exact h0
  have HSB := fun k => Lib.hid (sats_in (fb bs) s3 hs0.out k)
  clear h0 hs0
  generalize (w2.setCell ⟨X, 18, none⟩ (.int .i64 r2.1)).setCell ⟨X, 1, none⟩ (.bool (decide (1 < s2.1.mode))) = V at *
  have GV : Hid (FarX E X V V) := Lib.hid (Far.refl _ _)
  clear d0 d1
  go_wp2_with fail
  go_loopw [4, 5, 6] (fun a p q wr => ∃ k : Nat, k ≤ 12 ∧ a = .int .i64 ((3 + k : Nat) : Int) ∧ Hid (Rd wr S n c bs E X (satsTo (fb bs) k s3)) ∧ Hid (FarX E X V wr)) (fun a _ _ _ => 15 - (intOf a).toNat)
  case atStart => exact ⟨0, by omega, rfl, HH, GV⟩
  case round =>
  obtain ⟨k, hk, rfl, HR, GR⟩ := hrel
  obtain ⟨d0, d1⟩ := KB _ (G.out.trans GR.out)
  by_cases hlt : k < 12
  · have c1 : ((3 + k : Nat) : Int) ≤ 14 := by omega
    have m1 : IntKind.i64.wrap (((3 + k : Nat) : Int) + 1) = ((3 + (k + 1) : Nat) : Int) := by rw [IntWalk.i64_in _ (by omega)]; omega
    obtain ⟨r, hr⟩ : ∃ r, intAns (fb bs (k + 3)) 1 999 = r := ⟨_, rfl⟩
    have H := Lib.hid (q_number HR.out (k + 3) (by omega) 1 999 (by decide) (by decide) r hr)
    unfold Rdt rv at H
    rw [Nat.add_comm k 3] at H hr
    have hb := (HSB k).out
    have HST := Lib.hid (show satsTo (fb bs) (k + 1) s3 = ({ (satsTo (fb bs) k s3).1 with sats := if (r.2 == 0) = true then (satsTo (fb bs) k s3).1.sats + 1 else (satsTo (fb bs) k s3).1.sats }, (satsTo (fb bs) k s3).2 || badE r.2) by
      rw [satsTo]
      unfold nHas nBad
      rw [show k + 3 = 3 + k by omega, hr])
    obtain ⟨t, ht⟩ : ∃ t : Rs, satsTo (fb bs) k s3 = t := ⟨_, rfl⟩
    rw [ht] at H hb HST HR
    have m2 : IntKind.i64.wrap (t.1.sats + 1) = t.1.sats + 1 := IntWalk.i64_in _ (by omega)
    obtain ⟨b, hb2⟩ : ∃ b, (r.2 == 0) = b := ⟨_, rfl⟩
    rw [hb2] at H HST
    clear hb hr ht HR hb2 HSB
    cases b
    · go_wp2_with (first | (go_at_call 43; refine H.out.mono ?_; rintro e w4 ⟨rfl, hh, gg⟩))
      go_roundw
      case rel => exact ⟨k + 1, by omega, by first | rfl | simp, Lib.hid (Rd.as (by rw [HST.out]; rfl) hh), Lib.hid (GR.out.trans (farE_x gg))⟩
      case measure => simp [intOf]; omega
    · go_wp2_with (first | (go_at_call 43; refine H.out.mono ?_; rintro e w4 ⟨rfl, hh, gg⟩; have k17 := hh.cellX 17 (.int .i64 t.1.sats) rfl; have f17 := hh.frozenX 17))
      go_roundw
      case rel => exact ⟨k + 1, by omega, by first | rfl | simp, Lib.hid (Rd.as (by rw [HST.out]; rfl) (hh.p_sats (t.1.sats + 1))), Lib.hid (farX_put (GR.out.trans (farE_x gg)) 17 _)⟩
      case measure => simp [intOf]; omega
  obtain rfl : k = 12 := by omega
  obtain ⟨s4, hs4⟩ : ∃ t : Rs, satsTo (fb bs) 12 s3 = t := ⟨_, rfl⟩
  have hh := HR.out
  rw [hs4] at hh
  have HS4 := Lib.hid hs4
  replace HH := Lib.hid hh
  replace G := Lib.hid (G.out.trans GR.out)
  clear hs4 hh HR GR HSB
  go_upto_region 10 with fail
  obtain ⟨u5, hu5⟩ : ∃ u5, uOf (fb bs) 15 2 = u5 := ⟨_, rfl⟩
  obtain ⟨b5, hb5⟩ : ∃ b5, unsBad (fb bs 15) 2 = b5 := ⟨_, rfl⟩
  have H := Lib.hid (q_unsigned HH.out 15 (by omega) 2 (by decide) u5 hu5 b5 hb5)
  unfold Rdt rv at H
  have HU5' := Lib.hid hu5
  clear hu5
  have HB5' := Lib.hid hb5
  clear hb5
  go_upto_region 11 with (go_at_call 41; refine H.out.mono ?_; rintro e w5 ⟨rfl, hh, gg⟩; have k20 := hh.cellX 20 _ rfl; have f20 := hh.frozenX 20)
  have hh2 := hh.p_pdop u5
  have g2 := farX_put (G.out.trans (farE_x gg)) 20 (.int .i64 u5)
  obtain ⟨s5, hs5⟩ : ∃ t : Rs, ({ s4.1 with pdop := u5 }, s4.2 || b5) = t := ⟨_, rfl⟩
  replace hh2 := Rd.as hs5 hh2
  have HS5 := Lib.hid hs5
  replace HH := Lib.hid hh2
  replace G := Lib.hid g2
  clear hs5 hh2 g2 H hh gg k20 f20
  clear d0 d1
  obtain ⟨d0, d1⟩ := KB _ G.out
  obtain ⟨u6, hu6⟩ : ∃ u6, uOf (fb bs) 16 2 = u6 := ⟨_, rfl⟩
  obtain ⟨b6, hb6⟩ : ∃ b6, unsBad (fb bs 16) 2 = b6 := ⟨_, rfl⟩
  have H := Lib.hid (q_unsigned HH.out 16 (by omega) 2 (by decide) u6 hu6 b6 hb6)
  unfold Rdt rv at H
  have HU6' := Lib.hid hu6
  clear hu6
  have HB6' := Lib.hid hb6
  clear hb6
  go_upto_region 12 with (go_at_call 41; refine H.out.mono ?_; rintro e w6 ⟨rfl, hh, gg⟩; have k21 := hh.cellX 21 _ rfl; have f21 := hh.frozenX 21)
  have hh2 := hh.p_hdop u6
  have g2 := farX_put (G.out.trans (farE_x gg)) 21 (.int .i64 u6)
  obtain ⟨s6, hs6⟩ : ∃ t : Rs, ({ s5.1 with hdop := u6 }, s5.2 || b6) = t := ⟨_, rfl⟩
  replace hh2 := Rd.as hs6 hh2
  have HS6 := Lib.hid hs6
  replace HH := Lib.hid hh2
  replace G := Lib.hid g2
  clear hs6 hh2 g2 H hh gg k21 f21
  clear d0 d1
  obtain ⟨d0, d1⟩ := KB _ G.out
  obtain ⟨u7, hu7⟩ : ∃ u7, uOf (fb bs) 17 2 = u7 := ⟨_, rfl⟩
  obtain ⟨b7, hb7⟩ : ∃ b7, unsBad (fb bs 17) 2 = b7 := ⟨_, rfl⟩
  have H := Lib.hid (q_unsigned HH.out 17 (by omega) 2 (by decide) u7 hu7 b7 hb7)
  unfold Rdt rv at H
  have HU7' := Lib.hid hu7
  clear hu7
  have HB7' := Lib.hid hb7
  clear hb7
  go_wp2_with (go_at_call 41; refine H.out.mono ?_; rintro e w7 ⟨rfl, hh, gg⟩; have k22 := hh.cellX 22 _ rfl; have f22 := hh.frozenX 22)
  have hh2 := hh.p_vdop u7
  have g2 := farX_put (G.out.trans (farE_x gg)) 22 (.int .i64 u7)
  obtain ⟨s7, hs7⟩ : ∃ t : Rs, ({ s6.1 with vdop := u7 }, s6.2 || b7) = t := ⟨_, rfl⟩
  replace hh2 := Rd.as hs7 hh2
  have HS7 := Lib.hid hs7
  replace HH := Lib.hid hh2
  replace G := Lib.hid g2
  clear hs7 hh2 g2 H hh gg k22 f22
  go_returns
  have hh := HH.out
  have q := HR1'.out; clear HR1'; subst q
  have q := HS1.out; clear HS1; subst q
  have q := HR2'.out; clear HR2'; subst q
  have q := HS2.out; clear HS2; subst q
  have q := HS3.out; clear HS3; subst q
  have q := HS4.out; clear HS4; subst q
  have q := HU5'.out; clear HU5'; subst q
  have q := HB5'.out; clear HB5'; subst q
  have q := HS5.out; clear HS5; subst q
  have q := HU6'.out; clear HU6'; subst q
  have q := HB6'.out; clear HB6'; subst q
  have q := HS6.out; clear HS6; subst q
  have q := HU7'.out; clear HU7'; subst q
  have q := HB7'.out; clear HB7'; subst q
  have q := HS7.out; clear HS7; subst q
  exact ⟨rfl, hh, (Far.of_grew GW.out).trans G.out⟩

end
end Go.Proofs.YtajgicliepenkaaDoor

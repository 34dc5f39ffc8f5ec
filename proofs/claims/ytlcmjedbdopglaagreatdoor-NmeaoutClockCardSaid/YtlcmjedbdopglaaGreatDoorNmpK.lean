/-
  The program's sentences: ZDA.
-/
import Derived.Test.YtlcmjedbdopglaaGreatDoorNmpH
import Derived.Deep.RegionHeld3
import Derived.Deep.DeepCutAuto
namespace Go.Proofs.YtlcmjedbdopglaaGreatDoor
open Go.RowKit
set_option linter.unusedVariables false

section
variable {w w' : World} {S n c E X : Nat} {bs : List ByteArray} {s : Rs}
set_option maxHeartbeats 4000000 in
set_option maxRecDepth 100000 in
theorem r_zda (h : Rd w S n c bs E X s) (hn : 7 ≤ n) : Calls Tryz.prog 61 #[rv S n c E, .pointer (some ⟨X, 0, none⟩)] w (Rdx w S n c bs E X (zdaOf (fb bs) s)) := by
  obtain ⟨W, hW, gW, ltW, d0, d1⟩ := boxR w S n c E
  have hEl := h.hE
  have hXl := h.hX
  have KB := box_keptX ltW (show w.heap.size ≠ E by omega) (show w.heap.size ≠ X by omega) d0 d1
  have HH := Lib.hid (h.grew gW)
  have GW := Lib.hid gW
  have G : Hid (FarX E X W W) := Lib.hid (Far.refl _ _)
  clear h gW
  unfold rv
  go_enter Tryz.func61, Tryz.ntmps61
  go_upto_region 1 with fail
  go_upto_region 2 with fail
  obtain ⟨r1, hr1⟩ : ∃ r1, clockOf (fb bs 1) = r1 := ⟨_, rfl⟩
  have H := Lib.hid (q_clock HH.out 1 (by omega) r1 hr1)
  unfold Rdt rv at H
  have HR1' := Lib.hid hr1
  clear hr1
  go_upto_region 3 with (go_at_call 82; refine H.out.mono ?_; rintro e w1 ⟨rfl, hh, gg⟩; have k5 := hh.cellX 5 _ rfl; have f5 := hh.frozenX 5; have k6 := hh.cellX 6 _ rfl; have f6 := hh.frozenX 6; have k7 := hh.cellX 7 _ rfl; have f7 := hh.frozenX 7; have k8 := hh.cellX 8 _ rfl; have f8 := hh.frozenX 8; have k2 := hh.cellX 2 _ rfl; have f2 := hh.frozenX 2)
  have hh2 := hh.time HR1'.out
  have g2 := farX_time (G.out.trans (farE_x gg)) (.int .i64 (r1.1.1 : Nat)) (.int .i64 (r1.1.2.1 : Nat)) (.int .i64 (r1.1.2.2.1 : Nat)) (.bool r1.1.2.2.2) (.bool (r1.2 == 0))
  obtain ⟨s1, hs1⟩ : ∃ t : Rs, sTime (fb bs) 1 s = t := ⟨_, rfl⟩
  replace hh2 := Rd.as hs1 hh2
  have HS1 := Lib.hid hs1
  replace HH := Lib.hid hh2
  replace G := Lib.hid g2
  clear hs1 hh2 g2 H hh gg k5 f5 k6 f6 k7 f7 k8 f8 k2 f2
  clear d0 d1
  obtain ⟨d0, d1⟩ := KB _ G.out
  obtain ⟨r2, hr2⟩ : ∃ r2, intAns (fb bs 2) 1 31 = r2 := ⟨_, rfl⟩
  have H := Lib.hid (q_number HH.out 2 (by omega) 1 31 (by decide) (by decide) r2 hr2)
  unfold Rdt rv at H
  have HR2' := Lib.hid hr2
  clear hr2
  go_upto_region 4 with (go_at_call 87; refine H.out.mono ?_; rintro e w2 ⟨rfl, hh, gg⟩; have k9 := hh.cellX 9 _ rfl; have f9 := hh.frozenX 9)
  have hh2 := hh.p_day r2.1
  have g2 := farX_put (G.out.trans (farE_x gg)) 9 (.int .i64 r2.1)
  obtain ⟨s2, hs2⟩ : ∃ t : Rs, ({ s1.1 with day := r2.1 }, s1.2 || badE r2.2) = t := ⟨_, rfl⟩
  replace hh2 := Rd.as hs2 hh2
  have HS2 := Lib.hid hs2
  replace HH := Lib.hid hh2
  replace G := Lib.hid g2
  clear hs2 hh2 g2 H hh gg k9 f9
  clear d0 d1
  obtain ⟨d0, d1⟩ := KB _ G.out
  obtain ⟨r3, hr3⟩ : ∃ r3, intAns (fb bs 3) 1 12 = r3 := ⟨_, rfl⟩
  have H := Lib.hid (q_number HH.out 3 (by omega) 1 12 (by decide) (by decide) r3 hr3)
  unfold Rdt rv at H
  have HR3' := Lib.hid hr3
  clear hr3
  go_upto_region 5 with (go_at_call 87; refine H.out.mono ?_; rintro e w3 ⟨rfl, hh, gg⟩; have k10 := hh.cellX 10 _ rfl; have f10 := hh.frozenX 10)
  have hh2 := hh.p_month r3.1
  have g2 := farX_put (G.out.trans (farE_x gg)) 10 (.int .i64 r3.1)
  obtain ⟨s3, hs3⟩ : ∃ t : Rs, ({ s2.1 with month := r3.1 }, s2.2 || badE r3.2) = t := ⟨_, rfl⟩
  replace hh2 := Rd.as hs3 hh2
  have HS3 := Lib.hid hs3
  replace HH := Lib.hid hh2
  replace G := Lib.hid g2
  clear hs3 hh2 g2 H hh gg k10 f10
  clear d0 d1
  obtain ⟨d0, d1⟩ := KB _ G.out
  obtain ⟨r4, hr4⟩ : ∃ r4, intAns (fb bs 4) 1980 2199 = r4 := ⟨_, rfl⟩
  have H := Lib.hid (q_number HH.out 4 (by omega) 1980 2199 (by decide) (by decide) r4 hr4)
  unfold Rdt rv at H
  have HR4' := Lib.hid hr4
  clear hr4
  go_upto_region 6 with (go_at_call 87; refine H.out.mono ?_; rintro e w4 ⟨rfl, hh, gg⟩; have k11 := hh.cellX 11 _ rfl; have f11 := hh.frozenX 11)
  have hh2 := hh.p_year r4.1
  have g2 := farX_put (G.out.trans (farE_x gg)) 11 (.int .i64 r4.1)
  obtain ⟨s4, hs4⟩ : ∃ t : Rs, ({ s3.1 with year := r4.1 }, s3.2 || badE r4.2) = t := ⟨_, rfl⟩
  replace hh2 := Rd.as hs4 hh2
  have HS4 := Lib.hid hs4
  replace HH := Lib.hid hh2
  replace G := Lib.hid g2
  clear hs4 hh2 g2 H hh gg k11 f11
  clear d0 d1
  obtain ⟨d0, d1⟩ := KB _ G.out
  generalize w4.setCell ⟨X, 11, none⟩ (.int .i64 r4.1) = V at *
  obtain ⟨b2, hb2⟩ : ∃ b, (r2.2 == 0) = b := ⟨_, rfl⟩
  obtain ⟨b3, hb3⟩ : ∃ b, (r3.2 == 0) = b := ⟨_, rfl⟩
  obtain ⟨b4, hb4⟩ : ∃ b, (r4.2 == 0) = b := ⟨_, rfl⟩
  rw [hb2, hb3, hb4]
  have HB2 := Lib.hid hb2
  have HB3 := Lib.hid hb3
  have HB4 := Lib.hid hb4
  clear hb2 hb3 hb4
  obtain ⟨x4, hx4⟩ := HH.out.ex 4 (by omega)
  have c4 := HH.out.fields 4 x4 hx4
  have n4 : (4 : Int) < n := by omega
  have n4c : (4 : Int) < c := by have := HH.out.cap; omega
  have HL := Lib.hid (show (fb bs 4).length = x4.size by rw [fb_at hx4, nat_length])
  have HA := fun b => Lib.hid (r_ask (HH.out.grew (Grew.refl _).drew) b)
  have KS := box_field ltW (show w.heap.size ≠ E by omega) HH.out G.out d0 d1 c4
  have GD := HH.out.drew
  unfold Rdt rv at HA
  clear hx4 c4
  obtain ⟨s5, hs5⟩ : ∃ t : Rs, (s4.1, s4.2 || (b4 && (fb bs 4).length != 4)) = t := ⟨_, rfl⟩
  go_cut [53] (fun q wx => Rd wx S n c bs E X s5 ∧ FarE E V wx)
  case first =>
    cases b4
    · have HS5 := Lib.hid hs5
      clear KS n4 n4c HL hs5
      first | (go_region_with (first | (go_at_call 36; refine (HA _).out.mono ?_; rintro e w5 ⟨rfl, hh, gg⟩; replace GD := GD.trans gg))) | fail
      all_goals
        go_wp2_with fail
        go_meet
        exact ⟨Rd.as (show (s4.1, s4.2 || !true) = s5 by rw [← HS5.out]; rfl) hh, GD⟩
    · have HS5 := Lib.hid hs5
      clear d0 d1 hs5
      go_region_held3 (fun w' => w'.cell? ⟨w.heap.size, 0, none⟩ = some (.slice (some ⟨S, 0, none⟩) n c) ∧ w'.cell? ⟨w.heap.size, 1, none⟩ = some (.func (.func 21) #[] #[.pointer (some ⟨E, 0, none⟩)]) ∧ w'.cell? ⟨S, 4, none⟩ = some (.string x4)) (exact KS _ GD)
        (first | (go_at_call 36; refine (HA _).out.mono ?_; rintro e w5 ⟨rfl, hh, gg⟩; replace GD := GD.trans gg))
      all_goals
        go_wp2_with fail
        go_meet
        exact ⟨Rd.as (show (s4.1, s4.2 || !((x4.size : Int) == 4)) = s5 by rw [← HS5.out, HL.out, Bool.true_and]; exact zda_len _ _) hh, GD⟩
  case rest =>
    obtain ⟨hh, gg⟩ := hcut
    have HS5 := Lib.hid hs5
    replace HH := Lib.hid hh
    replace G := Lib.hid (G.out.trans (farE_x gg))
    have k3 := HH.out.cellX 3 (.bool s5.1.hasDate) rfl
    have f3 := HH.out.frozenX 3
    clear hh gg GD HA KS HL hs5 d0 d1
    obtain ⟨s6, hs6⟩ : ∃ t : Rs, ({ s5.1 with hasDate := b2 && b3 && b4 }, s5.2) = t := ⟨_, rfl⟩
    go_upto_region 7 with fail
    go_cut [63] (fun q wx => Rd wx S n c bs E X s6 ∧ FarX E X wc wx)
    case first =>
      cases b2 <;> cases b3 <;> cases b4
      all_goals
        have HS6 := Lib.hid hs6
        clear hs6
        go_wp2_with fail
        go_meet
        refine ⟨Rd.as ?_ (HH.out.p_hasDate _), farX_put (Far.refl _ _) 3 _⟩
        rw [← HS6.out]
        rfl
    case rest =>
      obtain ⟨hh, gg⟩ := hcut
      have HS6 := Lib.hid hs6
      replace HH := Lib.hid hh
      replace G := Lib.hid (G.out.trans gg)
      clear hh gg hs6 k3 f3
      have k1 := HH.out.cellX 1 (.bool s6.1.valid) rfl
      have f1 := HH.out.frozenX 1
      have k2 := HH.out.cellX 2 (.bool s6.1.hasTime) rfl
      have k3 := HH.out.cellX 3 (.bool s6.1.hasDate) rfl
      cases ht : s6.1.hasTime <;> cases hd : s6.1.hasDate
      all_goals
        rw [ht] at k2
        rw [hd] at k3
        have HB := Lib.hid (And.intro ht hd)
        clear ht hd
        go_wp2_with fail
        go_returns
        have hh := Rd.as (show _ = (({ s6.1 with valid := s6.1.hasTime && s6.1.hasDate }, s6.2) : Rs) by rw [HB.out.1, HB.out.2]) (HH.out.p_valid _)
        have q := HS6.out; clear HS6; subst q
        have q := HS5.out; clear HS5; subst q
        have q := HB4.out; clear HB4; subst q
        have q := HB3.out; clear HB3; subst q
        have q := HB2.out; clear HB2; subst q
        have q := HS4.out; clear HS4; subst q
        have q := HR4'.out; clear HR4'; subst q
        have q := HS3.out; clear HS3; subst q
        have q := HR3'.out; clear HR3'; subst q
        have q := HS2.out; clear HS2; subst q
        have q := HR2'.out; clear HR2'; subst q
        have q := HS1.out; clear HS1; subst q
        have q := HR1'.out; clear HR1'; subst q
        exact ⟨rfl, hh, farX_put ((Far.of_grew GW.out).trans G.out) 1 _⟩

end
end Go.Proofs.YtlcmjedbdopglaaGreatDoor

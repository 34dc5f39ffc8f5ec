/-
  The program's sentences: GSV.
-/
import Derived.Test.YtajgicliepenkaaDoorNmpH
import Derived.Deep.RegionHeld3
import Derived.Deep.DeepCutAuto
namespace Go.Proofs.YtajgicliepenkaaDoor
open Go.RowKit
set_option linter.unusedVariables false

section
variable {w w' : World} {S n c E X : Nat} {bs : List ByteArray} {s : Rs}
set_option maxHeartbeats 4000000 in
set_option maxRecDepth 100000 in
theorem r_gsv (h : Rd w S n c bs E X s) (hn : 4 ≤ n) : Calls Tryd.prog 32 #[rv S n c E, .pointer (some ⟨X, 0, none⟩)] w (Rdx w S n c bs E X (gsvOf (fb bs) (n - 1) s)) := by
  obtain ⟨W, hW, gW, ltW, d0, d1⟩ := boxR w S n c E
  have hEl := h.hE
  have hXl := h.hX
  have KB := box_keptX ltW (show w.heap.size ≠ E by omega) (show w.heap.size ≠ X by omega) d0 d1
  have HH := Lib.hid (h.grew gW)
  have GW := Lib.hid gW
  have G : Hid (FarX E X W W) := Lib.hid (Far.refl _ _)
  clear h gW
  unfold rv
  go_enter Tryd.func32, Tryd.ntmps32
  obtain ⟨m, hm⟩ : ∃ m, n - 1 = m := ⟨_, rfl⟩
  have hnm := HH.out.many
  have hx : IntKind.i64.wrap ((n : Int) - 1) = (m : Nat) := by rw [IntWalk.i64_in _ (by omega)]; omega
  rw [hm]
  have HM := Lib.hid hm
  clear hm hnm
  go_upto_region 2 with fail
  have HA := fun b => Lib.hid (r_ask HH.out b)
  unfold Rdt rv at HA
  obtain ⟨q, hq⟩ : ∃ q, m % 4 = q := ⟨_, rfl⟩
  have e4 : (m : Int).tmod 4 = (q : Nat) := by rw [← hq]; rfl
  have e5 : (m : Int) % 4 = (q : Nat) := by omega
  have hq4 : q < 4 := by omega
  obtain ⟨s1, hs1⟩ : ∃ t : Rs, (s.1, s.2 || !(q == 3 || q == 0)) = t := ⟨_, rfl⟩
  have HQ := Lib.hid hq
  clear hq
  go_cut [18] (fun z wx => Rd wx S n c bs E X s1 ∧ FarE E W wx)
  case first =>
    rcases (show q = 0 ∨ q = 1 ∨ q = 2 ∨ q = 3 by omega) with rfl | rfl | rfl | rfl
    all_goals
      have HS1 := Lib.hid hs1
      clear hs1 hq4
      go_wp2_with (first | (go_at_call 19; refine (HA _).out.mono ?_; rintro e w1 ⟨rfl, hh, gg⟩))
      go_meet
      exact ⟨Rd.as HS1.out hh, gg⟩
  case rest =>
  obtain ⟨hh, gg⟩ := hcut
  have HS1 := Lib.hid hs1
  replace HH := Lib.hid hh
  replace G := Lib.hid (farE_x gg : FarX E X W wc)
  clear hh gg HA hs1 e4 e5 hq4 hx d0 d1
  obtain ⟨d0, d1⟩ := KB _ G.out
  go_upto_region 3 with fail
  obtain ⟨r2, hr2⟩ : ∃ r2, intAns (fb bs 1) 1 9 = r2 := ⟨_, rfl⟩
  have H := Lib.hid (q_number HH.out 1 (by omega) 1 9 (by decide) (by decide) r2 hr2)
  unfold Rdt rv at H
  have HR2' := Lib.hid hr2
  clear hr2
  go_upto_region 4 with (go_at_call 43; refine H.out.mono ?_; rintro e w2 ⟨rfl, hh, gg⟩; have k23 := hh.cellX 23 _ rfl; have f23 := hh.frozenX 23)
  have hh2 := hh.p_parts r2.1
  have g2 := farX_put (G.out.trans (farE_x gg)) 23 (.int .i64 r2.1)
  obtain ⟨s2, hs2⟩ : ∃ t : Rs, ({ s1.1 with parts := r2.1 }, s1.2 || badE r2.2) = t := ⟨_, rfl⟩
  replace hh2 := Rd.as hs2 hh2
  have HS2 := Lib.hid hs2
  replace HH := Lib.hid hh2
  replace G := Lib.hid g2
  clear hs2 hh2 g2 H hh gg k23 f23
  clear d0 d1
  obtain ⟨d0, d1⟩ := KB _ G.out
  have hr := int_in2 (fb bs 1) 1 9 (by decide) (by decide)
  rw [HR2'.out] at hr
  have k23 := HH.out.cellX 23 (.int .i64 s2.1.parts) rfl
  have hp : s2.1.parts = r2.1 := by rw [← HS2.out]
  rw [hp] at k23
  generalize w2.setCell ⟨X, 23, none⟩ (.int .i64 r2.1) = V at *
  obtain ⟨r3, hr3⟩ : ∃ r, intAns (fb bs 2) 1 r2.1 = r := ⟨_, rfl⟩
  have H := Lib.hid (q_number (HH.out.grew (Grew.refl V).drew) 2 (by omega) 1 r2.1 (by decide) (by omega) r3 hr3)
  unfold Rdt rv at H
  have HR3 := Lib.hid hr3
  have hXV := HH.out.hX
  have hBV : w.heap.size < V.heap.size := Nat.lt_of_lt_of_le ltW G.out.size
  have hEX := HH.out.EX
  have KS : ∀ w', FarE E V w' → (w'.cell? ⟨w.heap.size, 0, none⟩ = some (.slice (some ⟨S, 0, none⟩) n c) ∧ w'.cell? ⟨w.heap.size, 1, none⟩ = some (.func (.func 9) #[] #[.pointer (some ⟨E, 0, none⟩)])) ∧ w'.cell? ⟨X, 23, none⟩ = some (.int .i64 r2.1) := fun w' g =>
    ⟨KB w' (G.out.trans (farE_x g)), (g.cell (p := ⟨X, 23, none⟩) hXV (fun e => hEX e.symm)).trans k23⟩
  have KS2 : ∀ w' v, FarE E V w' → ((w'.setCell ⟨X, 24, none⟩ v).cell? ⟨w.heap.size, 0, none⟩ = some (.slice (some ⟨S, 0, none⟩) n c) ∧ (w'.setCell ⟨X, 24, none⟩ v).cell? ⟨w.heap.size, 1, none⟩ = some (.func (.func 9) #[] #[.pointer (some ⟨E, 0, none⟩)])) ∧ (w'.setCell ⟨X, 24, none⟩ v).cell? ⟨X, 23, none⟩ = some (.int .i64 r2.1) := fun w' v g =>
    ⟨KB _ (farX_put (G.out.trans (farE_x g)) 24 v), (World.cell?_setCell_other _ _ _ _ (fun e => by injection e; omega)).trans (KS w' g).2⟩
  have GD := HH.out.drew
  obtain ⟨s3, hs3⟩ : ∃ t : Rs, ({ s2.1 with part := r3.1 }, s2.2 || badE r3.2) = t := ⟨_, rfl⟩
  clear hr hp k23 hr3 d0 d1
  go_cut [37] (fun z wx => Rd wx S n c bs E X s3 ∧ FarX E X V wx)
  case first =>
    have HS3 := Lib.hid hs3
    clear hs3
    go_region_held3 (fun w' => (w'.cell? ⟨w.heap.size, 0, none⟩ = some (.slice (some ⟨S, 0, none⟩) n c) ∧ w'.cell? ⟨w.heap.size, 1, none⟩ = some (.func (.func 9) #[] #[.pointer (some ⟨E, 0, none⟩)])) ∧ w'.cell? ⟨X, 23, none⟩ = some (.int .i64 r2.1)) (first | exact KS _ GD | exact KS2 _ _ GD)
      (first | (go_at_call 43; refine H.out.mono ?_; rintro e w3 ⟨rfl, hh, gg⟩; replace GD := GD.trans gg; have k24 := hh.cellX 24 _ rfl; have f24 := hh.frozenX 24))
    all_goals
      go_wp2_with fail
      go_meet
      exact ⟨Rd.as HS3.out (hh.p_part r3.1), farX_put (farE_x GD) 24 _⟩
  case rest =>
  obtain ⟨hh, gg⟩ := hcut
  have HS3 := Lib.hid hs3
  replace HH := Lib.hid hh
  replace G := Lib.hid (G.out.trans gg)
  clear hh gg hs3 KS KS2 H GD hXV hBV hEX
  obtain ⟨d0, d1⟩ := KB _ G.out
  go_upto_region 5 with fail
  obtain ⟨r4, hr4⟩ : ∃ r4, intAns (fb bs 3) 0 99 = r4 := ⟨_, rfl⟩
  have H := Lib.hid (q_number HH.out 3 (by omega) 0 99 (by decide) (by decide) r4 hr4)
  unfold Rdt rv at H
  have HR4' := Lib.hid hr4
  clear hr4
  go_upto_region 6 with (go_at_call 43; refine H.out.mono ?_; rintro e w4 ⟨rfl, hh, gg⟩; have k17 := hh.cellX 17 _ rfl; have f17 := hh.frozenX 17)
  have hh2 := hh.p_sats r4.1
  have g2 := farX_put (G.out.trans (farE_x gg)) 17 (.int .i64 r4.1)
  obtain ⟨s4, hs4⟩ : ∃ t : Rs, ({ s3.1 with sats := r4.1 }, s3.2 || badE r4.2) = t := ⟨_, rfl⟩
  replace hh2 := Rd.as hs4 hh2
  have HS4 := Lib.hid hs4
  replace HH := Lib.hid hh2
  replace G := Lib.hid g2
  clear hs4 hh2 g2 H hh gg k17 f17
  clear d0 d1
  obtain ⟨d0, d1⟩ := KB _ G.out
  have k1 := HH.out.cellX 1 (.bool s4.1.valid) rfl
  have f1 := HH.out.frozenX 1
  go_wp2_with fail
  have hh2 := HH.out.p_valid (true)
  have g2 := farX_put G.out 1 (.bool (true))
  obtain ⟨s5, hs5⟩ : ∃ t : Rs, ({ s4.1 with valid := true }, s4.2) = t := ⟨_, rfl⟩
  replace hh2 := Rd.as hs5 hh2
  have HS5 := Lib.hid hs5
  replace HH := Lib.hid hh2
  replace G := Lib.hid g2
  clear hs5 hh2 g2 k1 f1
  go_returns
  have hh := HH.out
  have q := HM.out; clear HM; subst q
  have q := HQ.out; clear HQ; subst q
  have q := HS1.out; clear HS1; subst q
  have q := HR2'.out; clear HR2'; subst q
  have q := HS2.out; clear HS2; subst q
  have q := HR3.out; clear HR3; subst q
  have q := HS3.out; clear HS3; subst q
  have q := HR4'.out; clear HR4'; subst q
  have q := HS4.out; clear HS4; subst q
  have q := HS5.out; clear HS5; subst q
  exact ⟨rfl, hh, (Far.of_grew GW.out).trans G.out⟩

end
end Go.Proofs.YtajgicliepenkaaDoor

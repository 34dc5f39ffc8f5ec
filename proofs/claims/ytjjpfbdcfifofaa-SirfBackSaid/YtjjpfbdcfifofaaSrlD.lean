/-
  The laws of SiRF messages: written and read again. The program's calls are handed in.
-/
import Derived.Test.YtjjpfbdcfifofaaSrlC
namespace Go.Proofs.Ytjjpfbdcfifofaa
open Go.RowKit
set_option linter.unusedVariables false

-- [BACK
set_option maxRecDepth 1000000 in
set_option maxHeartbeats 8000000 in
theorem law_SirfBack (C : SirfCalls) (v : Value) (S : List Nat) (t : Int) (w : World) (hr : Row .u8 w v S) (hB : Bytes S) (ht : -9223372036854775808 ≤ t ∧ t ≤ 9223372036854775807) :
    Calls Try.prog 5 #[v, .int .i64 t] w fun e w' => e = .returned (.bool true) ∧ Grew w w' := by
  have HKN := fun w => Lib.hid (law_known13 C w)
  have HR := Lib.hid hr
  obtain ⟨SA, sc, rfl, hsc⟩ := hr.form
  by_cases hbig : 1100 < S.length
  · have n1 : (1100 : Int) < S.length := by omega
    clear hr
    go_enter Try.func5, Try.ntmps5
    go_wp2_with (go_at_call 6; refine (HKN _).out.mono ?_; rintro e w1 ⟨rfl, g1⟩)
    go_ret
    exact ⟨rfl, g1⟩
  · have n1 : ¬ (1100 : Int) < S.length := by omega
    by_cases her : (srfDec S).2.2 = 0
    · obtain ⟨a, zs, P, hback⟩ := sback_of hB her
      have HB := Lib.hid hback
      have hfl := sframe_length P
      have hpl := hback.len
      have hzl := hback.few
      have hpos := hback.pos
      have ha := hback.small
      have hP := hback.bytes
      have HP := Lib.hid (sdec_call C hr hB (by omega) hback.dec)
      have HPAY := fun v w hr => Lib.hid (spay_call C (v := v) (w := w) ha hr hback.in64 (by omega) hback.pay)
      have HENC := fun v w hr => Lib.hid (senc_call C (v := v) (w := w) ha hr hback.in64 (by omega) hback.enc)
      have HDP := fun v w hr => Lib.hid (sdec_call C (v := v) (w := w) hr hP (by omega) hback.again)
      have HS := fun v1 v2 w h1 h2 => Lib.hid (ssame_call (a := a) (v1 := v1) (v2 := v2) (w := w) (xs := zs) (ys := zs) h1 h2 (by omega))
      simp only [decide_true] at HS
      generalize srfFrame P = M at *
      have HBy := Lib.hid hB
      have HFL := Lib.hid hfl
      have HPL := Lib.hid hpl
      obtain ⟨pb, po, e0, hpb, hpc⟩ := (by obtain ⟨A', c', e', _, hcl⟩ := hr; simp only [Value.slice.injEq] at e'; obtain ⟨b, o, e2, hb, hc⟩ := hcl (by omega); exact ⟨b, o, e'.1.trans e2, hb, hc 0 (by omega)⟩ : ∃ b o, SA = some ⟨b, o, none⟩ ∧ b < w.heap.size ∧ w.cell? ⟨b, o + 0, none⟩ = some (.int .u8 (wd S 0 : Nat)))
      subst e0
      rw [hback.kind, Nat.add_zero] at hpc
      have HPC := Lib.hid hpc
      clear hr hback her hB hfl hpl hP hpc
      go_enter Try.func5, Try.ntmps5
      go_upto_region 4 with (go_at_call 7; refine HP.out.mono ?_; rintro e w2 ⟨UA1, uc1, rfl, k1, g2⟩)
      obtain ⟨V2, hV2, gV2, T2⟩ := twoC_new w2 (.int .u8 (a : Nat)) (.slice UA1 zs.length uc1) 26
      try rw [hV2]
      have G2 := Lib.hid (g2.trans gV2)
      have K2 := Lib.hid (k1.grew gV2)
      have T2' := Lib.hid T2
      obtain ⟨_, x0, x1, _, _⟩ := T2
      have HC := HPAY _ _ K2.out
      clear hV2 k1 HP
      go_upto_region 7 with (go_at_call 10; refine HC.out.mono ?_; rintro e w3 ⟨PA, pc, rfl, hrow, g⟩)
      have TU := Lib.hid (T2'.out.grew g)
      have KU := Lib.hid (K2.out.grew g)
      have GX := Lib.hid (G2.out.trans g)
      have RP := Lib.hid hrow
      have HC := HDP _ _ hrow
      clear hrow g HPAY T2' K2 G2 x0 x1
      go_upto_region 8 with (go_at_call 7; refine HC.out.mono ?_; rintro e w4 ⟨UA2, uc2, rfl, k2, g4⟩)
      obtain ⟨V4, hV4, gV4, T4⟩ := twoC_new w4 (.int .u8 (a : Nat)) (.slice UA2 zs.length uc2) 26
      try rw [hV4]
      have g := g4.trans gV4
      have TU := Lib.hid (TU.out.grew g)
      have KU := Lib.hid (KU.out.grew g)
      have GX := Lib.hid (GX.out.trans g)
      have RP := Lib.hid (RP.out.grew g)
      have TV := Lib.hid T4
      have KV := Lib.hid (k2.grew gV4)
      have HC := HENC _ _ KU.out
      obtain ⟨_, x0, x1, _, _⟩ := TU.out
      clear g g4 gV4 hV4 T4 k2 HDP HENC
      go_upto_region 9 with (go_at_call 12; refine HC.out.mono ?_; rintro e w5 ⟨FA, fc, rfl, hrow, g⟩)
      have TU := Lib.hid (TU.out.grew g)
      have KU := Lib.hid (KU.out.grew g)
      have GX := Lib.hid (GX.out.trans g)
      have RP := Lib.hid (RP.out.grew g)
      have TV := Lib.hid (TV.out.grew g)
      have KV := Lib.hid (KV.out.grew g)
      have RF := Lib.hid hrow
      clear g hrow HC x0 x1
      have hM : M.length = S.length + 8 := by rw [HFL.out, HPL.out]
      rw [hM, HPL.out]
      have j1 : IntKind.i64.wrap ((S.length : Int) + 8) = (S.length : Int) + 8 := IntWalk.i64_in _ (by omega)
      have hS5 := HS _ _ w5 KU.out KV.out
      clear hM RF
      obtain ⟨_, x0, x1, _, _⟩ := TU.out
      obtain ⟨_, y0, y1, _, _⟩ := TV.out
      go_upto_region 11 with (go_at_call 9; refine hS5.out.mono ?_; rintro e w9 ⟨rfl, g9⟩)
      have g9 := Lib.hid g9
      have TU := Lib.hid (TU.out.grew g9.out)
      have KU := Lib.hid (KU.out.grew g9.out)
      have GX := Lib.hid (GX.out.trans g9.out)
      clear x0 x1 y0 y1 TV KV RP j1 hS5 g9 HFL HPL HS
      have m1 : IntKind.i64.wrap ((S.length : Int) - 1) = ((S.length - 1 : Nat) : Int) := by rw [IntWalk.i64_in _ (by omega)]; omega
      have m2 : (S.length : Int) - 1 = ((S.length - 1 : Nat) : Int) := by omega
      obtain ⟨T, hT, hT1, hTn⟩ : ∃ T : Nat, wrap64 (1 + wrap64 ((IntKind.u64.wrap t).tmod ((S.length - 1 : Nat) : Int))) = (T : Nat) ∧ 1 ≤ T ∧ T < S.length := by
        have hu : 0 ≤ IntKind.u64.wrap t := by simp [IntKind.wrap, IntKind.bits, IntKind.signed]; omega
        rw [Int.tmod_eq_emod_of_nonneg hu]
        have h1 := Int.emod_nonneg (IntKind.u64.wrap t) (show ((S.length - 1 : Nat) : Int) ≠ 0 by omega)
        have h2 := Int.emod_lt_of_pos (IntKind.u64.wrap t) (show (0 : Int) < ((S.length - 1 : Nat) : Int) by omega)
        generalize IntKind.u64.wrap t % ((S.length - 1 : Nat) : Int) = R at *
        refine ⟨(1 + R).toNat, ?_, by omega, by omega⟩
        rw [IntWalk.wrap64_in R (by omega), IntWalk.wrap64_in _ (by omega)]
        omega
      have hlay := HB.out.lay
      have hX : ((wd S T + 1) % 256) < 256 := by omega
      obtain ⟨ys, hdec, hdiff, hyl⟩ := HB.out.other T ((wd S T + 1) % 256) hT1 hTn hX (by have := HBy.out T; omega)
      have hby2 := HBy.out.set T _ hTn hX
      have HD2 := fun v w hr => Lib.hid (sdec_call C (v := v) (w := w) hr hby2 (by rw [List.length_set]; omega) hdec)
      have HS2 := fun v1 v2 w h1 h2 => Lib.hid (ssame_call (a := a) (v1 := v1) (v2 := v2) (w := w) (xs := zs) (ys := ys) h1 h2 (by omega))
      rw [hdiff] at HS2
      have HL := fun w => ref13_Layout a w ha
      have hok := srf_layOk a
      rw [hlay] at HL hok
      generalize (srfLay a).2 = l at *
      replace HL := fun w => Lib.hid (HL w)
      have hx1 : IntKind.u8.wrap ((wd S T : Int) + 1) = (((wd S T + 1) % 256 : Nat) : Int) := by rw [wrap_u8]; omega
      have hx2 : ((wd S T : Int) + 1) % 256 = (((wd S T + 1) % 256 : Nat) : Int) := by omega
      generalize hXX : (wd S T + 1) % 256 = X at *
      have hTZ : (T : Int) < S.length := by omega
      have HO1 := own_litN (B := w9.heap.size) w9 5 #[] [] 0 (Nat.le_refl _) rfl rfl (by simp [maxLen])
      have HR1 := HR.out.grew (GX.out.trans ((Grew.refl w9).alloc (.cells #[] 5)))
      clear hXX hdec hdiff HB HBy hby2
      go_upto_region 12 with fail
      rw [hT]
      clear m1 m2
      clear hT
      go_upto_region 13 with (refine wpList_joinN _ rfl _ _ 22 rfl w9.heap.size 5 .u8 1 Try.underlying22 infoU8 (.slice (some ⟨w9.heap.size, 0, none⟩) 0 0) _ rfl HO1 _ S rfl HR1 (by simp only [List.length_nil]; omega) (by decide) (by simp) ?_; intro v1 w10 hown hgrow hnil)
      have g10 := Grew.pushV ((Grew.refl w9).alloc (.cells #[] 5)) HO1 (Nat.le_refl _) hgrow
      rw [List.nil_append] at hown
      obtain ⟨g17, c17, rfl, hg17, _⟩ := hown.form (by omega)
      obtain ⟨hx, hfr⟩ := hown.cellS rfl T hTn
      have O2 := hown.set T X hTn
      have F2 := (Far.refl (fun x => x = g17) w10).setCell (p := ⟨g17, T, none⟩) rfl (.int .u8 (X : Nat))
      have hw2 : w2.heap.size < w9.heap.size := TU.out.lt
      have TU := Lib.hid ((TU.out.grew g10).far F2 (by show ¬ _ = _; omega))
      have KU := Lib.hid ((KU.out.grew g10).far3 F2 (fun h0 x hx' e => by
        have e : x = g17 := e
        obtain ⟨b', o', e2, hb2, _⟩ := KU.out.at_ h0
        rw [e2] at hx'
        simp only [Value.ownBlock, Option.some.injEq] at hx'
        omega))
      have GX := Lib.hid (GX.out.trans (Grew.setCell g10 (p := ⟨g17, T, none⟩) hg17 (.int .u8 (X : Nat))))
      clear hown hgrow hnil HO1 HR1 g10
      go_upto_region 14 with fail
      generalize w10.setCell ⟨g17, T, none⟩ (.int .u8 (X : Nat)) = w11 at *
      have HC := HD2 _ _ O2.row
      clear HD2 hx hfr hx1 hx2 F2 O2
      go_upto_region 15 with (go_at_call 7; refine HC.out.mono ?_; rintro e w12 ⟨UA3, uc3, rfl, k3, g12⟩)
      obtain ⟨V12, hV12, gV12, T12⟩ := twoC_new w12 (.int .u8 (a : Nat)) (.slice UA3 ys.length uc3) 26
      try rw [hV12]
      have g := g12.trans gV12
      have TU := Lib.hid (TU.out.grew g)
      have KU := Lib.hid (KU.out.grew g)
      have GX := Lib.hid (GX.out.trans g)
      have TW := Lib.hid T12
      have KW := Lib.hid (k3.grew gV12)
      have hc15 := (GX.out.cell (p := ⟨pb, po, none⟩) hpb).trans HPC.out
      clear hV12 g gV12 T12 k3 g12 HC
      go_upto_region 16 with (go_at_call 14; refine (HL _).out.mono ?_; rintro e w13 ⟨lv, rfl, hlv, g⟩)
      obtain ⟨LA, lc, rfl, _⟩ := hlv.form
      have TU := Lib.hid (TU.out.grew g)
      have KU := Lib.hid (KU.out.grew g)
      have GX := Lib.hid (GX.out.trans g)
      have TW := Lib.hid (TW.out.grew g)
      have KW := Lib.hid (KW.out.grew g)
      have HLV := Lib.hid hlv
      have HOK := Lib.hid hok
      have hev := hok.even
      clear g hlv hok HL
      go_wp2_with fail
      go_loopg [18, 19] (l.length) (fun kx s z wr => ∃ k : Nat, 2 * k + kx = l.length ∧ s = .bool (inField l T k) ∧ z = .int .i64 ((2 * k : Nat) : Int) ∧ Hid (Grew w13 wr))
      case atStart => exact ⟨0, by omega, rfl, rfl, Lib.hid (Grew.refl _)⟩
      case round =>
        obtain ⟨k, hk, rfl, rfl, hg⟩ := hrel
        by_cases hlt : 2 * k < l.length
        · obtain ⟨lb, lo, rfl, hlb, hx1⟩ := HLV.out.at_ (i := 2 * k) hlt
          obtain ⟨lb', lo', e3, _, hx2⟩ := HLV.out.at_ (i := 2 * k + 1) (by omega)
          cases e3
          have y1 := (hg.out.cell (p := ⟨lb, lo + 2 * k, none⟩) hlb).trans hx1
          have y2 := (hg.out.cell (p := ⟨lb, lo + (2 * k + 1), none⟩) hlb).trans hx2
          have hst := Lib.hid (show inField l T (k + 1) = (inField l T k || (decide ((zi l (2 * k)).toNat ≤ T) && decide (T < (zi l (2 * k)).toNat + (zi l (2 * k + 1)).natAbs))) from rfl)
          have hsz := HOK.out.size k (by omega)
          have hin0 := HOK.out.in_ k (by omega)
          obtain ⟨p, hp⟩ : ∃ p : Nat, zi l (2 * k) = (p : Nat) := ⟨(zi l (2 * k)).toNat, by omega⟩
          rw [hp] at y1 hst hin0
          generalize zi l (2 * k + 1) = Z at *
          clear hx1 hx2 hp
          have i1 : 2 * (k : Int) < l.length := by omega
          have i2 : 2 * (k : Int) + 1 < l.length := by omega
          have i3 : 0 ≤ 2 * (k : Int) := by omega
          have i4 : 0 ≤ 2 * (k : Int) + 1 := by omega
          have i5 : IntKind.i64.wrap (2 * (k : Int) + 1) = 2 * (k : Int) + 1 := IntWalk.i64_in _ (by omega)
          have i6 : (2 * (k : Int)).toNat = 2 * k := by omega
          have i7 : (2 * (k : Int) + 1).toNat = 2 * k + 1 := by omega
          have i8 : IntKind.i64.wrap (-Z) = -Z := IntWalk.i64_in _ (by omega)
          have i9 : max Z (-Z) = (Z.natAbs : Int) := by omega
          have i10 : IntKind.i64.wrap ((p : Int) + (Z.natAbs : Int)) = (p : Int) + (Z.natAbs : Int) := IntWalk.i64_in _ (by omega)
          cases hin : inField l T k with
          | true =>
            rw [hin, Bool.true_or] at hst
            go_wp2_with fail
            go_region
            all_goals
              go_wp2_with fail
              go_roundg (l.length - 2 * (k + 1))
              case measure => omega
              case rel => exact ⟨k + 1, by omega, by rw [hst.out], by simp; omega, Lib.hid (by first | exact hg.out | exact hg.out.drew)⟩
          | false =>
            rw [hin, Bool.false_or] at hst
            by_cases hc1 : p ≤ T
            · have d1 : (p : Int) ≤ T := by omega
              have hfd := Lib.hid (sfld_is p T Z hc1)
              go_wp2_with fail
              go_region
              all_goals
                rw [hfd.out, ← hst.out]
                generalize (if Z < -Z then -Z else Z) = mm
                go_wp2_with fail
                go_roundg (l.length - 2 * (k + 1))
                case measure => omega
                case rel => exact ⟨k + 1, by omega, rfl, by simp; omega, Lib.hid (by first | exact hg.out | exact hg.out.drew)⟩
            · have d1 : ¬ (p : Int) ≤ T := by omega
              have hst1 : Hid (inField l T (k + 1) = false) := Lib.hid (by rw [hst.out]; simp; omega)
              go_wp2_with fail
              go_region
              all_goals
                go_wp2_with fail
                go_roundg (l.length - 2 * (k + 1))
                case measure => omega
                case rel => exact ⟨k + 1, by omega, by rw [hst1.out], by simp; omega, Lib.hid (by first | exact hg.out | exact hg.out.drew)⟩
        · have hkk : l.length / 2 = k := by omega
          rw [hkk] at HS2
          obtain ⟨_, x0, x1, _, _⟩ := TU.out.grew hg.out
          obtain ⟨_, y0, y1, _, _⟩ := TW.out.grew hg.out
          have HSX := HS2 _ _ wr (KU.out.grew hg.out) (KW.out.grew hg.out)
          have hge : l.length ≤ 2 * k := by omega
          clear HS2 hkk
          cases hin : inField l T k
          all_goals
            rw [hin] at HSX
            go_wp2_with (first
              | (go_at_call 9; refine HSX.out.mono ?_; rintro e w14 ⟨rfl, g14⟩)
              | (go_at_call 6; refine (HKN _).out.mono ?_; rintro e w15 ⟨rfl, g15⟩))
            go_ret
            exact ⟨by first | rfl | simp, ((GX.out.trans hg.out).trans g14).trans g15⟩
    · have her' := Lib.hid (sdec_no C hr hB (by omega) her)
      clear hr
      go_enter Try.func5, Try.ntmps5
      go_upto_region 4 with (go_at_call 7; refine her'.out.mono ?_; rintro e w2 ⟨UA1, uc1, er, rfl, hne, g2⟩)
      obtain ⟨V2, hV2, gV2, T2⟩ := twoC_new w2 (.int .u8 0) (.slice UA1 0 uc1) 26
      try rw [hV2]
      clear hV2
      obtain ⟨_, x0, x1, _, _⟩ := T2
      have er0 : ¬ (er : Int) = 0 := by omega
      go_wp2_with (go_at_call 6; refine (HKN _).out.mono ?_; rintro e w3 ⟨rfl, g3⟩)
      go_ret
      exact ⟨by first | rfl | simp, (g2.trans gV2).trans g3⟩
-- BACK]
end Go.Proofs.Ytjjpfbdcfifofaa

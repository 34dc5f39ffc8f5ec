/-
  The program's SiRF messages: a payload written.
-/
import Derived.Test.YtjjpfbdcfifofaaSrpD
import Derived.Test.YtjjpfbdcfifofaaRowY
namespace Go.Proofs.Ytjjpfbdcfifofaa
open Go.RowKit
set_option linter.unusedVariables false

theorem fits_readS {a : Nat} {l zs : List Int} {n k p m : Nat} {neg : Bool} (hok : BLayOk l n) (hk : 2 * k + 1 < l.length) (e1 : zi l (2 * k) = (p : Nat)) (e2 : zi l (2 * k + 1) = (if neg then -(m : Int) else (m : Int))) :
    getB (bpayTo a l zs n (k + 1)) p (if neg then -(m : Int) else (m : Int)) = zi zs k ↔ fitsZ (zi zs k) (zi l (2 * k + 1)) = true := by
  have h := bpayTo_num (m := a) hok k (k + 1) (by omega) (by omega) (zs := zs)
  rw [e1, e2, Int.toNat_natCast] at h
  rw [e2, getB_sign]
  exact sign_mod _ _ _ (by have := (hok.size k hk).1; rw [e2] at this; exact this) h
-- [PAY
set_option maxRecDepth 100000 in
set_option maxHeartbeats 8000000 in
theorem srp_Payload (a : Nat) (v : Value) (zs : List Int) (w : World) (ha : a < 256) (hr : RowZ .i64 w v zs) (hz : I64 zs) (hl : zs.length ≤ 100000) :
    Calls Try.prog 10 #[.agg #[.int .u8 (a : Nat), v]] w (PayR (srfPay a zs) w) := by
  have hok := srf_layOk a
  have HF := srf_field a
  have HNO := fun h => slay_no (c := a) h
  have HAT := fun w v (h : SLayH w v a) => h.at_
  have hpay : srfPay a zs = if (srfLay a).1 = 0 then ([], 7) else if 2 * zs.length ≠ (srfLay a).2.length then ([], 2) else if fitsTo (srfLay a).2 zs zs.length = true then (bpayTo a (srfLay a).2 zs (srfLay a).1 zs.length, 0) else ([], 2) := rfl
  generalize srfPay a zs = r at *
  unfold SLayAt at HAT
  have HLay : ∀ w v, SLayH w v a → _ := HAT
  generalize hn : (srfLay a).1 = n at *
  generalize hll : (srfLay a).2 = l at *
  have hev := hok.even
  have HP := Lib.hid hpay
  clear hpay
  have HR := Lib.hid hr
  obtain ⟨ZA, zc, rfl, hzc⟩ := hr.form
  clear hr
  go_enter Try.func10, Try.ntmps10
  go_upto_region 1 with fail
  obtain ⟨W, hW, g0, T0⟩ := twoC_new w (.int .u8 (a : Nat)) (.slice ZA zs.length zc) 26
  rw [hW]
  clear hW
  have T1 := Lib.hid T0
  have hw0 := T0.lt
  clear T0
  go_cut [4, 5] (fun s t wx => ∃ (p : Nat) (A : Option Addr) (cap : Nat), s = .pointer (some ⟨p, 0, none⟩) ∧ t = .bool (!decide (n = 0)) ∧ W.heap.size ≤ p ∧ Hid (SLayH wx (.agg #[.int .i64 (n : Nat), .slice A (l.length / 2) cap]) a) ∧ Hid (TwoC wx p (.int .i64 (n : Nat)) (.slice A (l.length / 2) cap)) ∧ Hid (Grew W wx))
  case first =>
    refine wp_thenS (spay_look a w.heap.size W (.slice ZA zs.length zc) T1 ha _ _ _ _ _ _ _ _ _ _ _ _ _ _ _ _ _ _ _ _ _ _ _ _ _ _ _ _ _ _ _ _ _ _ _ _ _ _ _ _ _ _ _ _ _ _ _ _ _ _ _ _ _ _ _ _ _ _ _ (fun p x y wx s9 s10 s11 s12 s13 s14 s15 hWp hlay hvar hg => ?_))
    obtain ⟨A, cap, e, _⟩ := HAT _ _ hlay
    simp only [Value.agg.injEq, Array.mk.injEq, List.cons.injEq, and_true] at e
    obtain ⟨rfl, rfl⟩ := e
    go_wp2_with fail
    go_meet
    case rel => exact ⟨p, A, cap, rfl, by simp, hWp, Lib.hid hlay, Lib.hid hvar, Lib.hid hg⟩
  case rest =>
    obtain ⟨wX, hwX⟩ : ∃ x, x = wc := ⟨_, rfl⟩
    subst hwX
    obtain ⟨p, A, cap, rfl, rfl, hWp, hlay, hvar, hg⟩ := hcut
    have G1 := Lib.hid (g0.trans hg.out)
    obtain ⟨_, v0, v1, _, _⟩ := hvar.out
    obtain ⟨_, s0, s1, _, _⟩ := T1.out.grew hg.out
    by_cases hn0 : n = 0
    · have HP0 : Hid (r = ([], 7)) := Lib.hid (by rw [HP.out, if_pos hn0])
      subst hn0
      go_wp2_with fail
      go_ret2
      rw [HP0.out]
      exact payR_no G1.out
    · by_cases hne : 2 * zs.length ≠ l.length
      · have n1 : ¬ (zs.length : Int) = (l.length : Int) / 2 := by omega
        go_wp2_with fail
        go_ret2
        rw [HP.out, if_neg hn0, if_pos hne]
        exact payR_no G1.out
      · have HP' : Hid (r = if fitsTo l zs zs.length = true then (bpayTo a l zs n zs.length, 0) else ([], 2)) := Lib.hid (by rw [HP.out, if_neg hn0, if_neg hne])
        have hK2 : l.length / 2 = zs.length := by omega
        have h2K : 2 * zs.length = l.length := by omega
        rw [hK2] at v1 hlay hvar
        go_upto_region 7 with (refine wpList_makeS _ rfl _ _ 22 rfl wX.heap.size 5 .u8 1 Try.underlying22 infoU8 n rfl rfl (by omega) (by unfold maxLen; omega) (Nat.le_refl _) ?_; intro V2 hO0 gV2)
        have HLC := (HAT _ _ hlay.out)
        obtain ⟨A', cap', eA, HLC⟩ := HLC
        simp only [Value.agg.injEq, Array.mk.injEq, List.cons.injEq, and_true, Value.slice.injEq] at eA
        obtain ⟨-, rfl, -, rfl⟩ := eA
        have HLY := Lib.hid HLC
        have HFI := Lib.hid HF
        have HOK := Lib.hid hok
        have hpw : p < wX.heap.size := hvar.out.lt
        have hvl : wX.heap.size < V2.heap.size := (hO0.lt _ rfl).2
        have hz' := Lib.hid hz
        have hnp : 0 < n := by omega
        obtain ⟨hx0, hf0⟩ := hO0.cellS (by simp) 0 (by simpa using hnp)
        have hni : (0 : Int) < n := by omega
        obtain ⟨_, s0, s1, _, _⟩ := T1.out.grew (hg.out.trans gV2)
        go_upto_region 8 with fail
        have O1 := hO0.set 0 a (by simpa using hnp)
        have F1 := (Far.refl (fun x => x = wX.heap.size) V2).setCell (p := ⟨wX.heap.size, 0, none⟩) rfl (.int .u8 (a : Nat))
        generalize V2.setCell ⟨wX.heap.size, 0, none⟩ (.int .u8 (a : Nat)) = V3 at *
        have F0 : Hid (Far (fun x => x = wX.heap.size) V2 V3) := Lib.hid F1
        obtain ⟨_, v0, v1, _, _⟩ := (hvar.out.grew gV2).far F0.out (by show ¬ p = _; omega)
        clear hx0 hf0 s0 s1 F1 hO0
        have hw1 : w.heap.size < wX.heap.size := Nat.lt_of_lt_of_le hw0 hg.out.size
        have GA := Lib.hid (G1.out.trans gV2)
        clear HLC HF hok hz HP HNO HAT HLay hK2 hne
        go_wp2_with fail
        go_loopg [35] (zs.length) (fun kx s wr => ∃ k : Nat, k + kx = zs.length ∧ s = .int .i64 k ∧ Hid (Own wX.heap.size 5 .u8 wr (.slice (some ⟨wX.heap.size, 0, none⟩) n n) (bpayTo a l zs n k)) ∧ Hid (fitsTo l zs k = true) ∧ Hid (Far (fun x => x = wX.heap.size) V2 wr))
        case atStart => exact ⟨0, by omega, rfl, Lib.hid (by unfold bpayTo; exact O1), Lib.hid rfl, F0⟩
        case round =>
          obtain ⟨k, hk, rfl, hO, hft, hFa⟩ := hrel
          by_cases hlt : k < zs.length
          · obtain ⟨q, m, neg, e1, e2, hm, hq1, hpm⟩ := HFI.out k (by omega)
            obtain ⟨fb, rfl, hfb, c0, c1, c2⟩ := HLY.out k (by omega)
            rw [e1] at c0
            rw [e2, sneg_abs] at c1
            rw [e2, sneg_lt m neg hm.1] at c2
            have HFR := Lib.hid (fits_readS (a := a) HOK.out (zs := zs) (by omega) e1 e2)
            have hnx : Hid (putBE (bpayTo a l zs n k) q m (zi zs k) m = bpayTo a l zs n (k + 1)) := Lib.hid (by rw [bpayTo, e1, e2, sneg_abs]; rfl)
            have hpl := bpayTo_length a l zs n k
            have hwr : wX.heap.size < wr.heap.size := (hO.out.lt _ rfl).2
            have hpl1 := bpayTo_length a l zs n (k + 1)
            have hby1 := Lib.hid (bpayTo_bytes ha HOK.out (zs := zs) (k + 1) (by omega))
            have hfn := Lib.hid (show fitsTo l zs (k + 1) = (fitsTo l zs k && fitsZ (zi zs k) (zi l (2 * k + 1))) from rfl)
            rw [hft.out, Bool.true_and] at hfn
            obtain ⟨zb, zo, rfl, hzb, hzx⟩ := HR.out.at_ (i := k) hlt
            have hzk := hz'.out k
            have HWR := fun w' (g : Grew wr w') => Lib.hid (srp_write wX.heap.size wX.heap.size n (bpayTo a l zs n k) q m neg (zi zs k) w' (by have := hO.out.grew g; rwa [hpl]) (by omega) hm (by omega) hzk)
            rw [hnx.out, hpl] at HWR
            have HRD := fun w' v' (h : Row .u8 w' v' (bpayTo a l zs n (k + 1))) => Lib.hid (srp_read v' (bpayTo a l zs n (k + 1)) q m neg w' h hby1.out (by omega) hm (by omega))
            have y0 := (hFa.out.cell (p := ⟨fb, k * 3, none⟩) (Nat.lt_trans hfb (by omega)) (by show ¬ fb = _; omega)).trans ((gV2.cell (p := ⟨fb, k * 3, none⟩) hfb).trans c0)
            have y1 := (hFa.out.cell (p := ⟨fb, k * 3 + 1, none⟩) (Nat.lt_trans hfb (by omega)) (by show ¬ fb = _; omega)).trans ((gV2.cell (p := ⟨fb, k * 3 + 1, none⟩) hfb).trans c1)
            have y2 := (hFa.out.cell (p := ⟨fb, k * 3 + 2, none⟩) (Nat.lt_trans hfb (by omega)) (by show ¬ fb = _; omega)).trans ((gV2.cell (p := ⟨fb, k * 3 + 2, none⟩) hfb).trans c2)
            have hzr := (hFa.out.cell (p := ⟨zb, zo + k, none⟩) (Nat.lt_of_lt_of_le hzb GA.out.size) (by show ¬ zb = _; omega)).trans ((GA.out.cell (p := ⟨zb, zo + k, none⟩) hzb).trans hzx)
            have TA := (T1.out.grew (hg.out.trans gV2)).far hFa.out (by show ¬ w.heap.size = _; omega)
            clear c0 c1 c2 hzx hzk
            generalize zi zs k = z at *
            go_upto_region 11 with fail
            obtain ⟨W3, hW3, g3, T3⟩ := three_new wr (.int .i64 (q : Nat)) (.int .i64 (m : Nat)) (.bool neg) 47
            rw [hW3]
            have hzb3 : zb < wr.heap.size := World.block_lt_of_cell? wr ⟨zb, zo + k, none⟩ hzr
            have hz3 := (g3.cell (p := ⟨zb, zo + k, none⟩) hzb3).trans hzr
            have T3' := Lib.hid T3
            have TA3 := Lib.hid (TA.grew g3)
            have hzbn : ¬ zb = wX.heap.size := by have := hzb; omega
            clear hW3 y0 y1 y2 hzr TA
            obtain ⟨_, x0, x1, x2, _, _, _⟩ := T3
            obtain ⟨_, _, s2, _, _⟩ := TA3.out
            go_cut [40] (fun s wx => Hid (Own wX.heap.size 5 .u8 wx (.slice (some ⟨wX.heap.size, 0, none⟩) n n) (bpayTo a l zs n (k + 1))) ∧ Hid (Far (fun x => x = wX.heap.size) W3 wx))
            case first =>
              go_region_law (refine step_calls (f := 20) (args := #[.agg #[.int .i64 (q : Nat), .int .i64 (m : Nat), .bool neg], .slice (some ⟨wX.heap.size, 0, none⟩) n n, .int .i64 z]) rfl (by simp [go_sem]; done) ((HWR _ (Grew.trans g3 (by repeat (first | (with_reducible exact Grew.refl _) | (with_reducible refine Grew.drew ?_))))).out.mono ?_); rintro e w5 ⟨rfl, O5, F5⟩; refine ⟨_, rfl, ?_⟩)
              all_goals
                replace F5 := Far.trans (Far.of_grew (F := fun x => x = wX.heap.size) (Grew.refl W3).drew) F5
                clear HWR HRD HFR x0 x1 x2 s2 hz3
                go_wp2_with fail
                go_meet
                case rel => exact ⟨Lib.hid O5, Lib.hid F5⟩
            case rest =>
              obtain ⟨O5, F5⟩ := hcut
              obtain ⟨_, x0, x1, x2, _, _, _⟩ := T3'.out.far F5.out (by show ¬ _ = _; omega)
              have TA5 := TA3.out.far F5.out (by show ¬ _ = _; omega)
              have TA6 := Lib.hid TA5
              obtain ⟨_, _, s2, _, _⟩ := TA5
              have hz5 := (F5.out.cell (p := ⟨zb, zo + k, none⟩) (Nat.lt_of_lt_of_le hzb3 g3.size) hzbn).trans hz3
              have hR5 := Lib.hid O5.out.row
              have HR6 := fun w' (g : Grew wc w') => HRD w' _ (hR5.out.grew g)
              have hzb5 : zb < wc.heap.size := World.block_lt_of_cell? wc ⟨zb, zo + k, none⟩ hz5
              clear hz3 HWR HRD hR5
              cases hfit : fitsZ z (zi l (2 * k + 1)) with
              | true =>
                have hy := (HFR.out.2 hfit)
                rw [hy] at HR6
                rw [hfit] at hfn
                clear hy HFR
                go_wp2_with fail
                go_cut [56] (fun s wx => s = .bool false ∧ Hid (Grew wc wx))
                case first =>
                  go_region_law (refine step_calls (f := 16) (args := #[.agg #[.int .i64 (q : Nat), .int .i64 (m : Nat), .bool neg], .slice (some ⟨wX.heap.size, 0, none⟩) n n]) rfl (by simp [go_sem]; done) ((HR6 _ (by repeat (first | (with_reducible exact Grew.refl _) | (with_reducible refine Grew.drew ?_)))).out.mono ?_); rintro e w6 ⟨rfl, g6⟩; refine ⟨_, rfl, ?_⟩; replace g6 := Grew.trans (a := wc) (by repeat (first | (with_reducible exact Grew.refl _) | (with_reducible refine Grew.drew ?_))) g6; have s6 := (TA6.out.grew g6).c1; have z6 := (g6.cell (p := ⟨zb, zo + k, none⟩) hzb5).trans hz5)
                  all_goals
                    clear HR6 x0 x1 x2 s2 hz5
                    go_wp2_with fail
                    go_meet
                    case rel => exact ⟨by simp, Lib.hid (by first | assumption | exact (by assumption : Grew _ _).drew)⟩
                case rest =>
                  obtain ⟨rfl, g7⟩ := hcut
                  have O7 := Lib.hid (O5.out.grew g7.out)
                  have F7 := Lib.hid ((hFa.out.trans (Far.of_grew g3)).trans (F5.out.trans (Far.of_grew g7.out)))
                  clear HR6 x0 x1 x2 s2 hz5
                  go_wp2_with fail
                  go_roundg (zs.length - (k + 1))
                  case measure => omega
                  case rel => exact ⟨k + 1, by omega, by go_num, O7, hfn, F7⟩
              | false =>
                have hy : ¬ getB (bpayTo a l zs n (k + 1)) q (if neg then -(m : Int) else (m : Int)) = z := fun e => by have := HFR.out.1 e; rw [hfit] at this; cases this
                rw [hfit] at hfn
                have HPE : Hid (r = ([], 2)) := Lib.hid (by rw [HP'.out, if_neg (by rw [fits_noS hfn hlt]; decide)])
                generalize getB (bpayTo a l zs n (k + 1)) q (if neg then -(m : Int) else (m : Int)) = y at *
                clear HFR HP'
                go_wp2_with fail
                go_cut [56] (fun s wx => s = .bool true ∧ Hid (Grew wc wx))
                case first =>
                  go_region_law (refine step_calls (f := 16) (args := #[.agg #[.int .i64 (q : Nat), .int .i64 (m : Nat), .bool neg], .slice (some ⟨wX.heap.size, 0, none⟩) n n]) rfl (by simp [go_sem]; done) ((HR6 _ (by repeat (first | (with_reducible exact Grew.refl _) | (with_reducible refine Grew.drew ?_)))).out.mono ?_); rintro e w6 ⟨rfl, g6⟩; refine ⟨_, rfl, ?_⟩; replace g6 := Grew.trans (a := wc) (by repeat (first | (with_reducible exact Grew.refl _) | (with_reducible refine Grew.drew ?_))) g6; have s6 := (TA6.out.grew g6).c1; have z6 := (g6.cell (p := ⟨zb, zo + k, none⟩) hzb5).trans hz5)
                  all_goals
                    clear HR6 x0 x1 x2 s2 hz5
                    go_wp2_with fail
                    go_meet
                    case rel => exact ⟨by simp [hy], Lib.hid (by first | assumption | exact (by assumption : Grew _ _).drew)⟩
                case rest =>
                  obtain ⟨rfl, g7⟩ := hcut
                  have F7 := Lib.hid ((hFa.out.trans (Far.of_grew g3)).trans (F5.out.trans (Far.of_grew g7.out)))
                  have GR := Lib.hid (F7.out.grew GA.out (fun x h => by have : x = wX.heap.size := h; omega))
                  clear HR6 x0 x1 x2 s2 hz5
                  go_wp2_with fail
                  go_ret2
                  rw [HPE.out]
                  exact payR_no GR.out
          · obtain rfl : k = zs.length := by omega
            have HPO : Hid (r = (bpayTo a l zs n zs.length, 0)) := Lib.hid (by rw [HP'.out, if_pos hft.out])
            have OL := Lib.hid hO.out.lt
            have OR := Lib.hid hO.out.row
            have GR := Lib.hid (hFa.out.grew GA.out (fun x h => by have : x = wX.heap.size := h; omega))
            clear hO hFa HP' hft HFI HLY
            go_wp2_with fail
            go_ret2
            rw [HPO.out]
            exact ⟨_, rfl, OR.out, fun _ x hx => by have := OL.out x hx; omega, GR.out⟩
-- PAY]
end Go.Proofs.Ytjjpfbdcfifofaa

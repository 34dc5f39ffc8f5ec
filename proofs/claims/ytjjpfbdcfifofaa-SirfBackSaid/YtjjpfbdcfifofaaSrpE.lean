/-
  The program's SiRF messages: a frame; all calls of layer 13 together.
-/
import Derived.Test.YtjjpfbdcfifofaaSrpP
import Derived.Test.YtjjpfbdcfifofaaSumQ
import Derived.Test.YtjjpfbdcfifofaaSrrE
import Derived.Test.YtjjpfbdcfifofaaSrlA
namespace Go.Proofs.Ytjjpfbdcfifofaa
open Go.RowKit
set_option linter.unusedVariables false

-- [ENC
set_option maxRecDepth 100000 in
set_option maxHeartbeats 4000000 in
theorem srp_Encode (a : Nat) (v : Value) (zs : List Int) (w : World) (ha : a < 256) (hr : RowZ .i64 w v zs) (hz : I64 zs) (hl : zs.length ≤ 100000) :
    Calls Try.prog 12 #[.agg #[.int .u8 (a : Nat), v]] w (PayR (srfEnc a zs) w) := by
  have HPAY := fun w' (g : Grew w w') => srp_Payload a v zs w' ha (hr.grew g) hz hl
  have henc : srfEnc a zs = if (srfPay a zs).2 = 0 then (srfFrame (srfPay a zs).1, 0) else ([], (srfPay a zs).2) := rfl
  obtain ⟨hL, hBL⟩ := srfPay_len ha zs
  generalize srfEnc a zs = r at *
  unfold PayR at HPAY
  generalize (srfPay a zs).2 = er at *
  generalize (srfPay a zs).1 = L at *
  replace HPAY := fun w' g => Lib.hid (HPAY w' g)
  obtain ⟨ZA, zc, rfl, hzc⟩ := hr.form
  by_cases he : er = 0
  · subst he
    rw [if_pos rfl] at henc
    have HE : Hid (r = ([160, 162, L.length / 256, L.length % 256] ++ L ++ [fifOf L / 256, fifOf L % 256, 176, 179], 0)) := Lib.hid henc
    have HFI := fun v' w' (h : Row .u8 w' v' L) => Lib.hid (sums_Fifteen v' L w' h hBL (by omega))
    have hf := fif_lt L
    clear henc hBL
    generalize fifOf L = f at *
    have m0 : (L.length : Int) % 256 = ((L.length % 256 : Nat) : Int) := by omega
    have m1 : (L.length : Int) / 256 = ((L.length / 256 : Nat) : Int) := by omega
    have m2 : IntKind.u8.wrap (L.length : Int) = ((L.length % 256 : Nat) : Int) := by rw [wrap_u8]; omega
    have p0 : (f : Int) % 256 = ((f % 256 : Nat) : Int) := by omega
    have p1 : (f : Int) / 256 = ((f / 256 : Nat) : Int) := by omega
    have p2 : IntKind.u8.wrap (f : Int) = ((f % 256 : Nat) : Int) := by rw [wrap_u8]; omega
    have hx1 : L.length % 256 < 256 := by omega
    have hx2 : L.length / 256 < 256 := by omega
    have hy1 : f % 256 < 256 := by omega
    have hy2 : f / 256 < 256 := by omega
    generalize L.length % 256 = M1 at *
    generalize L.length / 256 = M2 at *
    generalize f % 256 = F1 at *
    generalize f / 256 = F2 at *
    have m3 : IntKind.u8.wrap (M2 : Int) = (M2 : Int) := IntWalk.u8_in _ (by omega)
    have m4 : (M2 : Int) % 256 = (M2 : Int) := by omega
    have q3 : IntKind.u8.wrap (F2 : Int) = (F2 : Int) := IntWalk.u8_in _ (by omega)
    have q4 : (F2 : Int) % 256 = (F2 : Int) := by omega
    go_enter Try.func12, Try.ntmps12
    go_upto_region 1 with fail
    obtain ⟨W, hW, g0, T0⟩ := twoC_new w (.int .u8 (a : Nat)) (.slice ZA zs.length zc) 26
    rw [hW]
    clear hW
    obtain ⟨_, s0, s1, _, _⟩ := T0
    go_upto_region 4 with (go_at_call 10; refine (HPAY _ g0).out.mono ?_; rintro e w1 ⟨pv, rfl, hrow, hpo, g1⟩)
    obtain ⟨PA, pc, rfl, hpc⟩ := hrow.form
    have HC := HFI _ _ hrow
    go_upto_region 6 with (go_at_call 22; refine HC.out.mono ?_; rintro e w2 ⟨rfl, g2⟩)
    have hrow2 := hrow.grew g2
    have HO1 := own_litS (B := w2.heap.size) w2 5 #[.int .u8 160, .int .u8 162, .int .u8 (M2 : Nat), .int .u8 (M1 : Nat)] [160, 162, M2, M1] 4 (Nat.le_refl _) rfl rfl (by simp [maxLen])
    have HR1 := hrow2.grew ((Grew.refl w2).alloc (.cells #[.int .u8 160, .int .u8 162, .int .u8 (M2 : Nat), .int .u8 (M1 : Nat)] 5))
    have HL2 := fun w' => (own_litS (B := 0) w' 5 #[.int .u8 (F2 : Nat), .int .u8 (F1 : Nat), .int .u8 176, .int .u8 179] [F2, F1, 176, 179] 4 (Nat.zero_le _) rfl rfl (by simp [maxLen])).row
    go_upto_region 7 with (refine wpList_joinN _ rfl _ _ 22 rfl w2.heap.size 5 .u8 1 Try.underlying22 infoU8 (.slice (some ⟨w2.heap.size, 0, none⟩) 4 4) _ rfl HO1 _ L rfl HR1 (by simp only [List.length_cons, List.length_nil]; omega) (by decide) (by simp) ?_; intro v2 w3 hown hgrow hnil)
    have G2 : Grew w2 w3 := Grew.pushT ((Grew.refl w2).alloc _) HO1 (Nat.le_refl _) hgrow
    have HL5 := HL2 w3
    have hlen2 : (([160, 162, M2, M1] ++ L).length + 4) * 1 ≤ 140737488355328 := by rw [List.length_append]; simp only [List.length_cons, List.length_nil]; omega
    clear hgrow hnil HO1 HR1 HL2 HC
    go_wp2_with (refine wpList_joinN _ rfl _ _ 22 rfl w2.heap.size 5 .u8 1 Try.underlying22 infoU8 v2 _ rfl (hown.alloc _) _ [F2, F1, 176, 179] rfl HL5 hlen2 (by decide) (by have := G2.size; simp; omega) ?_; intro v6 w6 hown6 hgrow6 hnil6)
    go_ret2
    rw [HE.out]
    exact ⟨v6, rfl, hown6.row, fun _ x hx => by have h1 := hown6.lt x hx; have h2 := (g0.trans (g1.trans g2)).size; omega, (g0.trans (g1.trans g2)).trans (Grew.pushT (G2.alloc _) (hown.alloc _) (Nat.le_refl _) hgrow6)⟩
  · have henc' := Lib.hid (henc.trans (if_neg he))
    clear henc
    have he0 : ¬ (er : Int) = 0 := by omega
    go_enter Try.func12, Try.ntmps12
    go_upto_region 1 with fail
    obtain ⟨W, hW, g0, T0⟩ := twoC_new w (.int .u8 (a : Nat)) (.slice ZA zs.length zc) 26
    rw [hW]
    clear hW
    obtain ⟨_, s0, s1, _, _⟩ := T0
    go_wp2_with (go_at_call 10; refine (HPAY _ g0).out.mono ?_; rintro e w1 ⟨pv, rfl, hrow, hpo, g1⟩)
    go_ret2
    rw [henc'.out]
    exact payR_no (g0.trans g1)
-- ENC]
theorem sirf_calls : SirfCalls := ⟨fun v S w hr hB hl => srp_Decode v S w hr hB hl, fun a v zs w ha hr hz hl => srp_Payload a v zs w ha hr hz hl, fun a v zs w ha hr hz hl => srp_Encode a v zs w ha hr hz hl⟩
end Go.Proofs.Ytjjpfbdcfifofaa

/-
  The document's UBX messages: a frame.
-/
import Derived.Test.YtaaphnlkfmaeeaaUbrE
import Derived.Test.YtaaphnlkfmaeeaaSumX
namespace Go.Proofs.Ytaaphnlkfmaeeaa
open Go.RowKit
set_option linter.unusedVariables false

theorem own_litR {B : Nat} (w : World) (E : TypeId) (cs : Array Value) (ns : List Nat) (n : Nat) (hB : B ≤ w.heap.size) (hc : cs = (cellsOf .u8 ns).toArray) (hn : n = ns.length) (hm : ns.length ≤ maxLen) : Own B E .u8 (w.alloc (.cells cs E)) (.slice (some ⟨w.heap.size, 0, none⟩) n n) ns := by
  subst hc hn
  exact Own.lit w .u8 E B hB ns hm
theorem Grew.pushR {w0 w w' : World} {B : Nat} {E : TypeId} {k : IntKind} {v : Value} {ns : List Nat} (g : Grew w0 w) (h : Own B E k w v ns) (hB : w0.heap.size ≤ B) (hg : w.grownBy w' v.ownBlock) : Grew w0 w' :=
  Below.grown g hg g.size (fun b hb => Nat.le_trans hB (World.ownsRow.lt h b hb).1)
theorem ubxPay_lenR (c : Nat) (zs : List Int) : (ubxPay c zs).1.length ≤ 92 ∧ Bytes (ubxPay c zs).1 := by
  have hok := ubx_layOk c
  have hev := hok.even
  unfold ubxPay
  split
  · exact ⟨by simp, Bytes.of_mem (by simp)⟩
  · split
    · exact ⟨by simp, Bytes.of_mem (by simp)⟩
    · rename_i h1 h2
      split
      · exact ⟨by show (payTo _ _ _ _).length ≤ 92; rw [payTo_length]; exact hev.2.2, payTo_bytes hok _ (by omega)⟩
      · exact ⟨by simp, Bytes.of_mem (by simp)⟩
theorem Bytes.appR {a b : List Nat} (ha : Bytes a) (hb : Bytes b) : Bytes (a ++ b) := fun i => by
  by_cases h : i < a.length
  · rw [wd_append_left h]; exact ha i
  · obtain ⟨j, rfl⟩ : ∃ j, i = a.length + j := ⟨i - a.length, by omega⟩
    rw [wd_append_right]; exact hb j
theorem body_bytesR {c : Nat} {L : List Nat} (hc : c < 65536) (hl : L.length ≤ 92) (hB : Bytes L) : Bytes (ubxBody c L) :=
  Bytes.appR (Bytes.of_mem (fun x hx => by simp at hx; omega)) hB
-- [ENC
set_option maxRecDepth 100000 in
set_option maxHeartbeats 4000000 in
theorem ref12_Encode (a b : Nat) (v : Value) (zs : List Int) (w : World) (ha : a < 256) (hb : b < 256) (hr : RowZ .i64 w v zs) (hz : ∀ i, -9223372036854775808 ≤ zi zs i ∧ zi zs i ≤ 9223372036854775807) (hl : zs.length ≤ 100000) :
    Calls Try.prog 13 #[.agg #[.int .u8 (a : Nat), .int .u8 (b : Nat), v]] w (PayR (ubxEnc (a * 256 + b) zs) w) := by
  have HPAY := fun w' (g : Grew w w') => ref12_Payload a b v zs w' ha hb (hr.grew g) hz hl
  have henc : ubxEnc (a * 256 + b) zs = if (ubxPay (a * 256 + b) zs).2 = 0 then (ubxFrame (a * 256 + b) (ubxPay (a * 256 + b) zs).1, 0) else ([], (ubxPay (a * 256 + b) zs).2) := rfl
  obtain ⟨hL, hBL⟩ := ubxPay_lenR (a * 256 + b) zs
  have hbb := body_bytesR (c := a * 256 + b) (by omega) hL hBL
  generalize ubxEnc (a * 256 + b) zs = r at *
  unfold PayR at HPAY
  generalize (ubxPay (a * 256 + b) zs).2 = er at *
  generalize (ubxPay (a * 256 + b) zs).1 = L at *
  replace HPAY := fun w' g => Lib.hid (HPAY w' g)
  obtain ⟨ZA, zc, rfl, hzc⟩ := hr.form
  by_cases he : er = 0
  · subst he
    rw [if_pos rfl] at henc
    have hbd : [a, b, L.length % 256, L.length / 256] ++ L = ubxBody (a * 256 + b) L := by
      unfold ubxBody
      rw [show (a * 256 + b) / 256 = a by omega, show (a * 256 + b) % 256 = b by omega]
    have hbl : (ubxBody (a * 256 + b) L).length ≤ 100000 := by unfold ubxBody; simp; omega
    have hbl2 : (ubxBody (a * 256 + b) L).length ≤ 100 := by unfold ubxBody; simp; omega
    have HFL := fun v' w' (h : Row .u8 w' v' (ubxBody (a * 256 + b) L)) => Lib.hid (ref07_Fletcher v' _ w' h hbb hbl)
    have HE : Hid (r = ([181, 98] ++ ubxBody (a * 256 + b) L ++ [fletA (ubxBody (a * 256 + b) L), fletB (ubxBody (a * 256 + b) L)], 0)) := Lib.hid henc
    have HBD := Lib.hid hbd
    have HBL := Lib.hid hbl2
    clear henc hbd hbl hbb hbl2
    generalize ubxBody (a * 256 + b) L = u at *
    have m0 : (L.length : Int).tmod 256 = ((L.length % 256 : Nat) : Int) := rfl
    have m1 : (L.length : Int).tdiv 256 = ((L.length / 256 : Nat) : Int) := rfl
    have hx1 : L.length % 256 < 256 := by omega
    have hx2 : L.length / 256 < 256 := by omega
    generalize L.length % 256 = M1 at *
    generalize L.length / 256 = M2 at *
    have m3 : IntKind.u8.wrap (M1 : Int) = (M1 : Int) := IntWalk.u8_in _ (by omega)
    have m4 : IntKind.u8.wrap (M2 : Int) = (M2 : Int) := IntWalk.u8_in _ (by omega)
    have m5 : (M1 : Int) % 256 = (M1 : Int) := by omega
    have m6 : (M2 : Int) % 256 = (M2 : Int) := by omega
    have m7 : IntKind.i64.wrap (M2 : Int) = (M2 : Int) := IntWalk.i64_in _ (by omega)
    have m8 : wrap64 (M2 : Int) = (M2 : Int) := IntWalk.wrap64_in _ (by omega)
    go_enter Try.func13, Try.ntmps13
    go_upto_region 1 with fail
    obtain ⟨W, hW, g0, T0⟩ := three_new w (.int .u8 (a : Nat)) (.int .u8 (b : Nat)) (.slice ZA zs.length zc) 26
    rw [hW]
    clear hW
    have T1 := Lib.hid T0
    obtain ⟨_, s0, s1, s2, _, _, _⟩ := T0
    go_upto_region 4 with (go_at_call 11; refine (HPAY _ g0).out.mono ?_; rintro e w1 ⟨pv, rfl, hrow, hpo, g1⟩)
    obtain ⟨PA, pc, rfl, hpc⟩ := hrow.form
    obtain ⟨_, s0, s1, s2, _, _, _⟩ := T1.out.grew g1
    have HO1 := own_litR (B := w1.heap.size) w1 5 #[.int .u8 (a : Nat), .int .u8 (b : Nat), .int .u8 (M1 : Nat), .int .u8 (M2 : Nat)] [a, b, M1, M2] 4 (Nat.le_refl _) rfl rfl (by simp [maxLen])
    have HR1 := hrow.grew ((Grew.refl w1).alloc (.cells #[.int .u8 (a : Nat), .int .u8 (b : Nat), .int .u8 (M1 : Nat), .int .u8 (M2 : Nat)] 5))
    go_upto_region 6 with (refine wpList_joinN _ rfl _ _ 22 rfl w1.heap.size 5 .u8 1 Try.underlying22 infoU8 (.slice (some ⟨w1.heap.size, 0, none⟩) 4 4) _ rfl HO1 _ L rfl HR1 (by simp only [List.length_cons, List.length_nil]; omega) (by decide) (by simp) ?_; intro v2 w2 hown hgrow hnil)
    have G2 : Grew w1 w2 := Grew.pushR ((Grew.refl w1).alloc _) HO1 (Nat.le_refl _) hgrow
    rw [HBD.out] at hown
    have hrw := hown.row
    have HFL2 := HFL _ _ hrw
    have HOW := Lib.hid hown
    obtain ⟨BA, bc, rfl, _⟩ := hrw.form
    clear hown hgrow hnil HO1 HR1 m0 m1 m3 m4 m5 m6 m7 m8 HFL hrw
    generalize fletA u = fa at *
    generalize fletB u = fb at *
    go_upto_region 7 with (go_at_call 22; refine HFL2.out.mono ?_; rintro e w3 ⟨rfl, hw3⟩; subst hw3)
    have HO2 := own_litR (B := w2.heap.size) w2 5 #[.int .u8 181, .int .u8 98] [181, 98] 2 (Nat.le_refl _) rfl rfl (by simp [maxLen])
    have HR2 := HOW.out.row.grew ((Grew.refl w2).alloc (.cells #[.int .u8 181, .int .u8 98] 5))
    have HL2 := fun w' => (own_litR (B := 0) w' 5 #[.int .u8 (fa : Nat), .int .u8 (fb : Nat)] [fa, fb] 2 (Nat.zero_le _) rfl rfl (by simp [maxLen])).row
    have hbl := HBL.out
    have hlen2 : (([181, 98] ++ u).length + 2) * 1 ≤ 140737488355328 := by rw [List.length_append]; simp only [List.length_cons, List.length_nil]; omega
    clear HFL2 HOW hbl
    go_wp2_with (first
      | (refine wpList_joinN _ rfl _ _ 22 rfl w2.heap.size 5 .u8 1 Try.underlying22 infoU8 (.slice (some ⟨w2.heap.size, 0, none⟩) 2 2) _ rfl HO2 _ u rfl HR2 (by have := HBL.out; simp only [List.length_cons, List.length_nil]; omega) (by decide) (by simp) ?_; intro v5 w5 hown5 hgrow5 hnil5; have G5 : Grew w2 w5 := Grew.pushR ((Grew.refl w2).alloc _) HO2 (Nat.le_refl _) hgrow5; have HL5 := HL2 w5)
      | (refine wpList_joinN _ rfl _ _ 22 rfl w2.heap.size 5 .u8 1 Try.underlying22 infoU8 v5 _ rfl (hown5.alloc _) _ [fa, fb] rfl HL5 hlen2 (by decide) (by have := G5.size; simp; omega) ?_; intro v6 w6 hown6 hgrow6 hnil6))
    go_ret2
    rw [HE.out]
    exact ⟨v6, rfl, hown6.row, fun _ x hx => by have h1 := hown6.lt x hx; have h2 := ((g0.trans g1).trans G2).size; omega, ((g0.trans g1).trans G2).trans (Grew.pushR (G5.alloc _) (hown5.alloc _) (Nat.le_refl _) hgrow6)⟩
  · have henc' := Lib.hid (henc.trans (if_neg he))
    clear henc
    have he0 : ¬ (er : Int) = 0 := by omega
    go_enter Try.func13, Try.ntmps13
    go_upto_region 1 with fail
    obtain ⟨W, hW, g0, T0⟩ := three_new w (.int .u8 (a : Nat)) (.int .u8 (b : Nat)) (.slice ZA zs.length zc) 26
    rw [hW]
    clear hW
    obtain ⟨_, s0, s1, s2, _, _, _⟩ := T0
    go_wp2_with (go_at_call 11; refine (HPAY _ g0).out.mono ?_; rintro e w1 ⟨pv, rfl, hrow, hpo, g1⟩)
    go_ret2
    rw [henc'.out]
    exact payR_no (g0.trans g1)
-- ENC]
end Go.Proofs.Ytaaphnlkfmaeeaa

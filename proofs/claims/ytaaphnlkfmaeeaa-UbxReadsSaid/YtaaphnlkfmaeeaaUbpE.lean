/-
  The program's UBX messages: a frame.
-/
import Derived.Test.YtaaphnlkfmaeeaaUbpP
import Derived.Test.YtaaphnlkfmaeeaaSumQ
namespace Go.Proofs.Ytaaphnlkfmaeeaa
open Go.RowKit
set_option linter.unusedVariables false

theorem own_litU {B : Nat} (w : World) (E : TypeId) (cs : Array Value) (ns : List Nat) (n : Nat) (hB : B ≤ w.heap.size) (hc : cs = (cellsOf .u8 ns).toArray) (hn : n = ns.length) (hm : ns.length ≤ maxLen) : Own B E .u8 (w.alloc (.cells cs E)) (.slice (some ⟨w.heap.size, 0, none⟩) n n) ns := by
  subst hc hn
  exact Own.lit w .u8 E B hB ns hm
theorem Grew.pushN {w0 w w' : World} {B : Nat} {E : TypeId} {k : IntKind} {v : Value} {ns : List Nat} (g : Grew w0 w) (h : Own B E k w v ns) (hB : w0.heap.size ≤ B) (hg : w.grownBy w' v.ownBlock) : Grew w0 w' :=
  Below.grown g hg g.size (fun b hb => Nat.le_trans hB (World.ownsRow.lt h b hb).1)
theorem ubxPay_len (c : Nat) (zs : List Int) : (ubxPay c zs).1.length ≤ 92 ∧ Bytes (ubxPay c zs).1 := by
  have hok := ubx_layOk c
  have hev := hok.even
  unfold ubxPay
  split
  · exact ⟨by simp, Bytes.of_mem (by simp)⟩
  · split
    · exact ⟨by simp, Bytes.of_mem (by simp)⟩
    · rename_i h1 h2
      split
      · exact ⟨by show (payTo _ _ _ _).length ≤ 92; rw [payTo_length]; exact hev.2.2, payTo_bytes hok _ (by omega)⟩
      · exact ⟨by simp, Bytes.of_mem (by simp)⟩
theorem ubxPay_err (c : Nat) (zs : List Int) : (ubxPay c zs).2 = 0 ∨ (ubxPay c zs).2 = 7 ∨ (ubxPay c zs).2 = 2 := by
  unfold ubxPay
  (repeat' split) <;> simp
theorem Bytes.app {a b : List Nat} (ha : Bytes a) (hb : Bytes b) : Bytes (a ++ b) := fun i => by
  by_cases h : i < a.length
  · rw [wd_append_left h]; exact ha i
  · obtain ⟨j, rfl⟩ : ∃ j, i = a.length + j := ⟨i - a.length, by omega⟩
    rw [wd_append_right]; exact hb j
theorem body_bytes {c : Nat} {L : List Nat} (hc : c < 65536) (hl : L.length ≤ 92) (hB : Bytes L) : Bytes (ubxBody c L) :=
  Bytes.app (Bytes.of_mem (fun x hx => by simp at hx; omega)) hB
-- [ENC
set_option maxRecDepth 100000 in
set_option maxHeartbeats 4000000 in
theorem ubp_Encode (a b : Nat) (v : Value) (zs : List Int) (w : World) (ha : a < 256) (hb : b < 256) (hr : RowZ .i64 w v zs) (hz : In64 zs) (hl : zs.length ≤ 100000) :
    Calls Try.prog 12 #[.agg #[.int .u8 (a : Nat), .int .u8 (b : Nat), v]] w (PayT (ubxEnc (a * 256 + b) zs) w) := by
  have HPAY := fun w' (g : Grew w w') => ubp_Payload a b v zs w' ha hb (hr.grew g) hz hl
  have henc : ubxEnc (a * 256 + b) zs = if (ubxPay (a * 256 + b) zs).2 = 0 then (ubxFrame (a * 256 + b) (ubxPay (a * 256 + b) zs).1, 0) else ([], (ubxPay (a * 256 + b) zs).2) := rfl
  obtain ⟨hL, hBL⟩ := ubxPay_len (a * 256 + b) zs
  have hbb := body_bytes (c := a * 256 + b) (by omega) hL hBL
  have her := ubxPay_err (a * 256 + b) zs
  generalize ubxEnc (a * 256 + b) zs = r at *
  unfold PayT at HPAY
  generalize (ubxPay (a * 256 + b) zs).2 = er at *
  generalize (ubxPay (a * 256 + b) zs).1 = L at *
  replace HPAY := fun w' g => Lib.hid (HPAY w' g)
  obtain ⟨ZA, zc, rfl, hzc⟩ := hr.form
  by_cases he : er = 0
  · subst he
    rw [if_pos rfl] at henc
    have hfr : ubxFrame (a * 256 + b) L = [181, 98, a, b, L.length % 256, L.length / 256] ++ L ++ [fletA (ubxBody (a * 256 + b) L), fletB (ubxBody (a * 256 + b) L)] := by
      unfold ubxFrame
      have : ubxBody (a * 256 + b) L = [a, b, L.length % 256, L.length / 256] ++ L := by
        unfold ubxBody
        rw [show (a * 256 + b) / 256 = a by omega, show (a * 256 + b) % 256 = b by omega]
      rw [this]
      rfl
    have hdr : ([181, 98, a, b, L.length % 256, L.length / 256] ++ L).drop 2 = ubxBody (a * 256 + b) L := by
      unfold ubxBody
      rw [show (a * 256 + b) / 256 = a by omega, show (a * 256 + b) % 256 = b by omega]
      rfl
    have hbl : (ubxBody (a * 256 + b) L).length ≤ 5000 := by unfold ubxBody; simp; omega
    have HFL := fun v' w' (h : Row .u8 w' v' (ubxBody (a * 256 + b) L)) => Lib.hid (sums_Fletcher v' _ w' h hbb hbl)
    have HE := Lib.hid (henc.trans (by rw [hfr]))
    have HDR := Lib.hid hdr
    clear henc hfr hdr hbl hbb
    generalize ubxBody (a * 256 + b) L = u at *
    have m1 : ((L.length : Int)) % 256 = ((L.length % 256 : Nat) : Int) := by omega
    have m2 : (L.length : Int) / 256 = ((L.length / 256 : Nat) : Int) := by omega
    have m3 : IntKind.u8.wrap (L.length : Int) = ((L.length % 256 : Nat) : Int) := by rw [wrap_u8]; omega
    have m4 : ((L.length / 256 : Nat) : Int) % 256 = ((L.length / 256 : Nat) : Int) := by omega
    have m5 : IntKind.u8.wrap ((L.length / 256 : Nat) : Int) = ((L.length / 256 : Nat) : Int) := by rw [wrap_u8]; omega
    go_enter Try.func12, Try.ntmps12
    go_upto_region 1 with fail
    obtain ⟨W, hW, g0, T0⟩ := three_new w (.int .u8 (a : Nat)) (.int .u8 (b : Nat)) (.slice ZA zs.length zc) 26
    rw [hW]
    clear hW
    have T1 := Lib.hid T0
    obtain ⟨_, s0, s1, s2, _, _, _⟩ := T0
    go_upto_region 4 with (go_at_call 10; refine (HPAY _ g0).out.mono ?_; rintro e w1 ⟨pv, rfl, hrow, hpo, g1⟩)
    obtain ⟨PA, pc, rfl, hpc⟩ := hrow.form
    obtain ⟨_, s0, s1, s2, _, _, _⟩ := T1.out.grew g1
    have hx1 : L.length % 256 < 256 := by omega
    have hx2 : L.length / 256 < 256 := by omega
    have HO := fun w' => own_litU (B := w1.heap.size) w' 5 #[.int .u8 181, .int .u8 98, .int .u8 (a : Nat), .int .u8 (b : Nat), .int .u8 (L.length % 256 : Nat), .int .u8 (L.length / 256 : Nat)] [181, 98, a, b, L.length % 256, L.length / 256] 6
    generalize L.length % 256 = M1 at *
    generalize L.length / 256 = M2 at *
    have HO1 := HO w1 (Nat.le_refl _) rfl rfl (by simp [maxLen])
    have HR1 := hrow.grew ((Grew.refl w1).alloc (.cells #[.int .u8 181, .int .u8 98, .int .u8 (a : Nat), .int .u8 (b : Nat), .int .u8 (M1 : Nat), .int .u8 (M2 : Nat)] 5))
    clear HO
    go_upto_region 6 with (refine wpList_joinN _ rfl _ _ 22 rfl w1.heap.size 5 .u8 1 Try.underlying22 infoU8 (.slice (some ⟨w1.heap.size, 0, none⟩) 6 6) _ rfl HO1 _ L rfl HR1 (by simp only [List.length_cons, List.length_nil]; omega) (by decide) (by simp) ?_; intro v2 w2 hown hgrow hnil)
    have G2 : Grew w1 w2 := Grew.pushN ((Grew.refl w1).alloc _) HO1 (Nat.le_refl _) hgrow
    obtain ⟨g2, c2, rfl, hg2, hl2, hm2⟩ := hown.head (hnil (by simp))
    obtain ⟨N, hN⟩ : ∃ N, ([181, 98, a, b, M1, M2] ++ L).length = N := ⟨_, rfl⟩
    have hN6 : N = 6 + L.length := by rw [← hN, List.length_append]; simp only [List.length_cons, List.length_nil]
    have hcut := hown.row
    rw [hN] at hcut hm2 hown
    have hcut := hcut.cut 2 (by rw [hN]; omega)
    rw [HDR.out, if_neg (by omega : ¬ c2 = 2), Nat.zero_add] at hcut
    rw [hN]
    have HFL2 := HFL _ _ hcut
    have HL2 := fun w' => (own_litU (B := 0) w' 5 #[.int .u8 (fletA u : Nat), .int .u8 (fletB u : Nat)] [fletA u, fletB u] 2 (Nat.zero_le _) rfl rfl (by simp [maxLen])).row
    generalize fletA u = fa at *
    generalize fletB u = fb at *
    have q1 : 2 ≤ N := by omega
    have q2 : 2 ≤ c2 := by omega
    have q3 : ¬ c2 = 2 := by omega
    have q4 : (2 : Int) ≤ N := by omega
    have HOW := Lib.hid hown
    have HNN := Lib.hid hN
    have HN6 := Lib.hid hN6
    clear hN6 hown hcut HFL HO1 HR1 hgrow hnil hN m1 m2 m3 m4 m5
    go_upto_region 7 with (go_at_call 21; refine HFL2.out.mono ?_; rintro e w3 ⟨rfl, g3⟩)
    have hown := HOW.out.grew g3
    have HL3 := HL2 w3
    have hlen : (([181, 98, a, b, M1, M2] ++ L).length + 2) * 1 ≤ 140737488355328 := by rw [HNN.out, HN6.out]; omega
    go_wp2_with (refine wpList_joinN _ rfl _ _ 22 rfl w1.heap.size 5 .u8 1 Try.underlying22 infoU8 (.slice (some ⟨g2, 0, none⟩) N c2) _ rfl (hown.alloc _) _ [fa, fb] rfl HL3 hlen (by decide) (by have := (G2.trans g3).size; simp; omega) ?_; intro v4 w4 hown4 hgrow4 hnil4)
    go_ret2
    rw [HE.out]
    exact ⟨v4, rfl, hown4.row, fun _ x hx => by have h1 := hown4.lt x hx; have h2 := (g0.trans g1).size; omega, (g0.trans g1).trans (Grew.pushN ((G2.trans g3).alloc _) (hown.alloc _) (Nat.le_refl _) hgrow4)⟩
  · have henc' := Lib.hid (henc.trans (if_neg he))
    clear henc
    have he0 : ¬ (er : Int) = 0 := by omega
    go_enter Try.func12, Try.ntmps12
    go_upto_region 1 with fail
    obtain ⟨W, hW, g0, T0⟩ := three_new w (.int .u8 (a : Nat)) (.int .u8 (b : Nat)) (.slice ZA zs.length zc) 26
    rw [hW]
    clear hW
    obtain ⟨_, s0, s1, s2, _, _, _⟩ := T0
    go_wp2_with (go_at_call 10; refine (HPAY _ g0).out.mono ?_; rintro e w1 ⟨pv, rfl, hrow, hpo, g1⟩)
    go_ret2
    rw [henc'.out]
    exact payT_no (g0.trans g1)
-- ENC]
end Go.Proofs.Ytaaphnlkfmaeeaa

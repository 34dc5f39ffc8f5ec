/-
  The program's frames: the body of a UBX frame.
-/
import Derived.Test.YtkoklmecijejkaaFrpF
namespace Go.Proofs.Ytkoklmecijejkaa
open Go.RowKit
set_option linter.unusedVariables false

section
variable {R0 : World → Prop} {v : Value} {F : Nat → Prop} {size : Nat} {L : List Nat} {w w' : World} {a b k : Nat}
set_option maxRecDepth 100000 in
set_option maxHeartbeats 4000000 in
theorem look_ubx (P : Looked R0 v F size L) (w : World) (a b : Nat) (h : AtK R0 v F w a b 1) (h1 : 0 < L.length) :
    Calls Try.prog 59 #[bv a b size] w (BodyT R0 v F L a b (ubxS size L) (wd L 2 :: wd L 3 :: (L.drop 6).take (ubxN L)) (6 + ubxN L) w) := by
  have hL : L.length ≤ 4096 := Nat.le_trans P.ll P.ls
  have hlb := h.lb
  have hla := h.la
  obtain ⟨W, hW, gW, c0, hWlt, c1, hWs⟩ := newB w (.func (.func 37) #[] #[.pointer (some ⟨a, 0, none⟩), .pointer (some ⟨b, 0, none⟩)]) (.int .i64 (size : Nat)) 74
  have G1 := (Grew.refl W).alloc (.cells #[.int .u8 98] 5)
  have HE := Lib.hid (look_expect P _ a b 1 (.slice (some ⟨W.heap.size, 0, none⟩) 1 1) [98] (h.grew P (gW.trans G1)) (by omega) (own_lit (B := 0) W 5 #[.int .u8 98] [98] 1 (Nat.zero_le _) rfl rfl (by simp [maxLen])).row (Bytes.of_mem (by simp)) (by simp) (fun _ x hx => by simp only [Value.ownBlock, Option.some.injEq] at hx; omega))
  unfold ExpT at HE
  have HX := Lib.hid (expS_one 98 L 1 (by omega))
  obtain ⟨x, hx⟩ : ∃ x, expS [98] L 1 = x := ⟨_, rfl⟩
  rw [hx] at HE HX
  have HP := Lib.hid P
  have hWb : b < W.heap.size := by omega
  have hWa : a < W.heap.size := by omega
  have GW := Lib.hid gW
  have HG1 := Lib.hid G1
  clear hx P h hWs gW
  unfold bv at HE ⊢
  go_enter Try.func59, Try.ntmps59
  go_upto_region 1 with fail
  clear hW
  go_wp2_with fail
  refine HE.out.mono ?_
  rintro e w1 ⟨j, rfl, hj, hj2, hA1, hF1⟩
  have hj1 : j ≤ 1 := hj
  have HF1 := Lib.hid ((Far.of_grew (HG1.out)).trans hF1 : Far (fun x => x = b) W w1)
  have HA1 := Lib.hid hA1
  have d0 := (HF1.out.cell (p := ⟨w.heap.size, 0, none⟩) hWlt (by simp only; omega)).trans c0
  have d1 := (HF1.out.cell (p := ⟨w.heap.size, 1, none⟩) hWlt (by simp only; omega)).trans c1
  have hw1 : w.heap.size < w1.heap.size := Nat.lt_of_lt_of_le hWlt HF1.out.size
  clear hF1 hA1 HE c0 c1 hj
  by_cases hx2 : x = 2
  · subst hx2
    have hj' := hj2 rfl
    simp only [List.length_cons, List.length_nil] at hj'
    subst hj'
    have hl1 : 1 < L.length ∧ wd L 1 = 98 := by
      have := HX.out
      by_cases hl : 1 < L.length
      · rw [if_pos hl] at this
        by_cases hc : wd L 1 = 98
        · exact ⟨hl, hc⟩
        · rw [if_neg hc] at this; omega
      · rw [if_neg hl] at this; omega
    have hS : Hid (ubxS size L = if L.length < 6 then 0 else if 512 < ubxN L ∨ size < ubxN L + 8 then 1 else if L.length < 6 + ubxN L then 0 else 2) := by
      show _ = _
      unfold ubxS
      rw [if_neg (by omega), if_neg (fun h => h hl1.2)]
    have HT := Lib.hid (look_take HP.out w1 a b 2 4 HA1.out (by omega) (by omega))
    unfold TakeT bv at HT
    clear hj2 HX hj1
    go_wp2_with fail
    refine HT.out.mono ?_
    rintro e w2 ⟨j, A, m, c, st, rfl, hj, hq1, hq2, hA2, hF2⟩
    clear HT
    by_cases hl4 : L.length < 6
    · obtain ⟨rfl, rfl⟩ := hq2 (by omega)
      have hS0 : ubxS size L = 0 := by rw [hS.out, if_pos hl4]
      replace hF2 := Lib.hid hF2
      replace hA2 := Lib.hid hA2
      clear hq1 hS
      go_wp2_with fail
      go_ret2
      exact bodyT_no 0 hS0 (by omega) (by omega) hA2.out (((Far.of_grew GW.out).trans HF1.out).trans hF2.out)
    · obtain ⟨rfl, rfl, hO⟩ := hq1 (by omega)
      have hS1 : Hid (ubxS size L = if 512 < ubxN L ∨ size < ubxN L + 8 then 1 else if L.length < 6 + ubxN L then 0 else 2) := by show _ = _; rw [hS.out, if_neg hl4]
      have htk : (L.drop 2).take 4 = [wd L 2, wd L 3, wd L 4, wd L 5] := by
        rw [List.take_add_one, List.take_add_one, List.take_add_one, List.take_add_one, List.take_zero, List.getElem?_drop, List.getElem?_drop, List.getElem?_drop, List.getElem?_drop, List.getElem?_eq_getElem (by omega), List.getElem?_eq_getElem (by omega), List.getElem?_eq_getElem (by omega), List.getElem?_eq_getElem (by omega), wd_lt (by omega), wd_lt (by omega), wd_lt (by omega), wd_lt (by omega)]
        rfl
      rw [htk] at hO
      obtain ⟨g, rfl, rfl, hcc, hg1, hg2, hcell⟩ := hO.cells (by simp)
      have y0 := hcell 2 (by simp)
      have y1 := hcell 3 (by simp)
      rw [show wd [wd L 2, wd L 3, wd L 4, wd L 5] 2 = wd L 4 from rfl] at y0
      rw [show wd [wd L 2, wd L 3, wd L 4, wd L 5] 3 = wd L 5 from rfl] at y1
      rw [show [wd L 2, wd L 3, wd L 4, wd L 5].length = 4 from rfl] at hO hcc ⊢
      have f0 := (hF2.cell (p := ⟨w.heap.size, 0, none⟩) hw1 (by simp only; omega)).trans d0
      have f1 := (hF2.cell (p := ⟨w.heap.size, 1, none⟩) hw1 (by simp only; omega)).trans d1
      have hw2 : w.heap.size < w2.heap.size := Nat.lt_of_lt_of_le hw1 hF2.size
      have hw12 : w1.heap.size ≤ w2.heap.size := hF2.size
      have hgb : g ≠ b := by have := hA2.lb; have := HA1.out.lb; omega
      have KS : ∀ w', Far (fun x => x = b) w2 w' → Hid (w'.cell? ⟨w.heap.size, 0, none⟩ = some (.func (.func 37) #[] #[.pointer (some ⟨a, 0, none⟩), .pointer (some ⟨b, 0, none⟩)]) ∧ w'.cell? ⟨w.heap.size, 1, none⟩ = some (.int .i64 (size : Nat)) ∧ w'.cell? ⟨g, 2, none⟩ = some (.int .u8 (wd L 4 : Nat)) ∧ w'.cell? ⟨g, 3, none⟩ = some (.int .u8 (wd L 5 : Nat))) := fun w' q =>
        Lib.hid ⟨(q.cell (p := ⟨w.heap.size, 0, none⟩) hw2 (by simp only; omega)).trans f0, (q.cell (p := ⟨w.heap.size, 1, none⟩) hw2 (by simp only; omega)).trans f1, (q.cell (p := ⟨g, 2, none⟩) hg2 hgb).trans y0, (q.cell (p := ⟨g, 3, none⟩) hg2 hgb).trans y1⟩
      have HPU := fun w' (q : Grew w2 w') => Lib.hid (look_payU HP.out w' a b (2 + 4) (wd L 5) (wd L 4) 512 (hA2.grew HP.out q) (by omega) (HP.out.bytes 5) (HP.out.bytes 4) (by omega))
      have HS2 : Hid (ubxS size L = payS L size (2 + 4) (ubxN L) 512) := hS1
      rw [show 256 * wd L 5 + wd L 4 = ubxN L from rfl] at HPU
      unfold PayU bv at HPU
      have hb2 := HP.out.bytes 4
      have hb3 := HP.out.bytes 5
      have G : Grew w2 w2.drew := (Grew.refl w2).drew
      have FF := Lib.hid (((Far.of_grew GW.out).trans HF1.out).trans hF2)
      have HO2 := Lib.hid (hO.prefix 2 (by simp))
      rw [show [wd L 2, wd L 3, wd L 4, wd L 5].take 2 = [wd L 2, wd L 3] from rfl] at HO2
      generalize wd L 2 = z0 at *
      generalize wd L 3 = z1 at *
      generalize wd L 4 = x at *
      generalize wd L 5 = y at *
      have hc2 : 2 ≤ c := by have : 4 ≤ c := hcc; omega
      have hc4 : 4 ≤ c := hcc
      clear hS hS1 htk hO hcell hq1 hq2 hA2 hF2 y0 y1 f0 f1 d0 d1 hcc
      go_upto_region 8 with (go_region_held3 (fun w' => w'.cell? ⟨w.heap.size, 0, none⟩ = some (.func (.func 37) #[] #[.pointer (some ⟨a, 0, none⟩), .pointer (some ⟨b, 0, none⟩)]) ∧ w'.cell? ⟨w.heap.size, 1, none⟩ = some (.int .i64 (size : Nat)) ∧ w'.cell? ⟨g, 2, none⟩ = some (.int .u8 (x : Nat)) ∧ w'.cell? ⟨g, 3, none⟩ = some (.int .u8 (y : Nat))) (first | exact (KS _ (Far.of_grew G)).out | exact (KS _ ((Far.of_grew G).trans hF3)).out) ((go_at_call 62; refine (HPU _ G).out.mono ?_; rintro e w3 ⟨j, A, m, c3, st, ms, rfl, hj3, hst, hms, hml, hO3, hA3, hF3⟩; replace hst := Lib.hid hst; replace hO3 := Lib.hid hO3)))
      have hF4 := (Far.of_grew G).trans hF3
      have hOw := HO2.out.far hF4 (fun y hy e => by simp only [Value.ownBlock, Option.some.injEq] at hy; omega)
      have hw13 : w1.heap.size ≤ w3.heap.size := Nat.le_trans hw12 hF4.size
      have hw3 : w.heap.size ≤ w3.heap.size := Nat.le_trans (Nat.le_of_lt hw2) hF4.size
      have HLT := Lib.hid (fun y (hy : F y) => HP.out.lt w1 y HA1.out.r hy)
      have hO4 := Lib.hid hOw
      have hms' := Lib.hid hms
      have hml' := Lib.hid hml
      have hF5 := Lib.hid (FF.out.trans hF4)
      have hA5 := Lib.hid hA3
      have HW1 : Hid (w1.heap.size ≤ g) := hg1
      clear hOw hms hml hF4 hF3 hA3 KS HO2 HPU hb2 hb3
      go_wp2_with (refine wpList_joinN _ rfl _ _ 23 rfl w1.heap.size 5 .u8 1 Try.underlying23 infoU8 (.slice (some ⟨g, 0, none⟩) 2 c) [z0, z1] rfl hO4.out _ ms rfl hms'.out (by have := hml'.out; simp only [List.length_cons, List.length_nil]; omega) (by decide) hw13 ?_; intro v4 w4 hown hgrow hnil)
      have hfo := far_own hO4.out hgrow
      have hla1 := HA1.out.la
      have hlb1 := HA1.out.lb
      have hA6 := hA5.out.far HP.out hfo (fun y hy => ⟨fun e => by omega, fun e => by omega, fun e => by have := HLT.out y e; omega⟩)
      have hF6 := hF5.out.beyond hfo (fun y hy => .inr (by omega))
      obtain ⟨A4, c4, rfl, hc4⟩ := hown.row.form
      go_ret2
      rw [HS2.out, ← hst.out]
      exact ⟨2 + 4 + j, A4, _, c4, rfl, by omega, fun h => ⟨by rw [(hO3.out h).1], by rw [← (hO3.out h).2.1]; exact own_base hown (Nat.le_of_lt hw1)⟩, hA6, hF6⟩
  · have e2 : ¬ (x : Int) = 2 := by omega
    have e3 : ((x : Int) == 2) = false := by simpa using e2
    have hS : Hid (ubxS size L = x) := by
      show _ = _
      have := HX.out
      unfold ubxS
      by_cases hl : 1 < L.length
      · rw [if_pos hl] at this
        rw [if_neg (by omega)]
        by_cases hc : wd L 1 = 98
        · rw [if_pos hc] at this; omega
        · rw [if_neg hc] at this; rw [if_pos hc, this]
      · rw [if_neg hl] at this; rw [if_pos (by omega), this]
    go_wp2_with fail
    go_ret2
    exact bodyT_no x hS.out hx2 (by omega) HA1.out ((Far.of_grew GW.out).trans HF1.out)
end
end Go.Proofs.Ytkoklmecijejkaa
